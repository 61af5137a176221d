/-
  Several texts in one: ParseN, Conv, ToSpot, ListK, ToHurdle, HurdleV, NumS, ReadU, ParseFe, StepLit, TextF, SpotT, OkS, Greatest, EqSpot, HurdleQ.
-/
import Derived.Test.YtaaphdbaocjecaaGreatDoorP5
import Derived.Test.YtaaphdbaocjecaaGreatDoorP6
import Derived.Test.YtaaphdbaocjecaaGreatDoorP1
import Derived.WalkKit
import Derived.OwnWalk
import Derived.BigQuiet
import Derived.Test.YtaaphdbaocjecaaGreatDoorP2
import Derived.Test.YtaaphdbaocjecaaGreatDoorP3
import Derived.WideShapes
import Derived.Tactics
import Derived.Shelf.Small.Wraps
import Derived.Shelf.Strings.Prefix
import Derived.Test.YtaaphdbaocjecaaGreatDoorP4
import Derived.Laws.BytesString
import Derived.Laws.Cells
import Derived.Lib.Hide
/-
  impl.parseNumber, impl.parseSpot by contracts.
-/
namespace Go.Proofs.YtaaphdbaocjecaaGreatDoor
open Go Go.RowKit Go.BigFrame

/-- What the parsing functions read of the world. -/
structure PEnv (a : Nat → Addr) (W : World) : Prop where
  errs : Errs a W
  num : NumE W
  max : MaxP W
theorem PEnv.below {a : Nat → Addr} {W W' : World} (h : PEnv a W) (hb : Below W.heap.size W W') : PEnv a W' := ⟨h.errs.below hb, h.num.below hb, h.max.below hb⟩
theorem pVal_no {B : Nat} {l : List UInt8} (h : pOk B l = false) : pVal B l = 0 := by
  unfold pOk at h
  unfold pVal
  split at h
  · cases h
  · rename_i hn
    cases hq : Lib.parseIntB B l
    · rename_i v; exact absurd hq (hn v)
    · rfl
    · rfl
theorem parse_any (B : Int) (N : Nat) (hB : (B = 8 ∧ N = 8) ∨ (B = 16 ∧ N = 16)) (l : List UInt8) (hl : l.length ≤ 1048576) (w : World) (h : NumE w) :
    Calls Tryz.prog 54 #[.string (bs l), .int .i64 10, .int .i64 B] w fun e w' => (pOk N l = true ∧ e = .returned (.tuple #[.int .i64 (pVal N l), .nilIface]) ∨ pOk N l = false ∧ ∃ x t p, e = .returned (.tuple #[.int .i64 x, .iface t (.pointer p)])) ∧ Below w.heap.size w w' := by
  rcases hB with ⟨rfl, rfl⟩ | ⟨rfl, rfl⟩
  · exact parse8_any l hl w h
  · exact parse16_any l hl w h
set_option maxRecDepth 100000 in
theorem parseNumber_any {a : Nat → Addr} (B : Int) (N : Nat) (hB : (B = 8 ∧ N = 8) ∨ (B = 16 ∧ N = 16)) (l : List UInt8) (hl : l.length ≤ 1048576) (w : World) (hE : PEnv a w) :
    Calls Tryz.prog 40 #[.string (bs l), .int .i64 B] w fun e w' => e = .returned (.tuple #[.int .i64 (pVal N l), evN a (pOk N l)]) ∧ Below w.heap.size w w' := by
  have hM := Mem.nil w
  have HE := Lib.hid hE
  have hP := parse_any B N hB l hl w hE.num
  cases hp : pOk N l
  · have HP := Lib.hid (hP.mono (R' := fun e w' => (∃ x t p, e = .returned (.tuple #[.int .i64 x, .iface t (.pointer p)])) ∧ Below w.heap.size w w') (by
      rintro e w' ⟨h | ⟨-, h⟩, hb⟩
      · rw [hp] at h; cases h.1
      · exact ⟨h, hb⟩))
    have H0 := Lib.hid (pVal_no hp)
    clear hP hE hp
    go_enter Tryz.func40, Tryz.ntmps40
    go_wp2_with (first | (go_at_call 54; refine (HP.out).mono ?_; rintro e W' ⟨⟨x, t, p, rfl⟩, hb'⟩; have hM' := hM.call hb'; clear hM hb'; have hM := hM'; clear hM'))
    ((try simp only [Act.put, List.setIfInBounds_toArray, List.set_cons_succ, List.set_cons_zero]); refine wp_region_mem (by kernel_rfl) (by kernel_rfl) hM ?_; clear hM; (repeat (first | go_big_quiet_skip | (go_big_quiet_want; first | (refine quiet_old _ _ rfl _ _ rfl (cellTab _ rfl) (errV (a 3)) (fun W hM2 => (HE.out.errs.below hM2.below).vars 3 (by omega)) ?_; (simp only [Act.put, List.setIfInBounds_toArray, List.set_cons_succ, List.set_cons_zero]); go_big_quiet_on) | (refine quiet_val ?_; apply Exists.intro; refine ⟨fun W => ?_, ?_⟩; (go_simp; (try simp only [rfl, if_true, Bool.false_eq_true, if_false]); rfl); (simp only [Act.put, List.setIfInBounds_toArray, List.set_cons_succ, List.set_cons_zero]); go_big_quiet_on)))); (with_reducible refine wpQuiet_nil ?_); intro W' hM)
    go_wp2
    refine bodyPost_ret (results_tmp2 rfl _ _ _) rfl ?_
    rw [H0.out]
    exact ⟨rfl, hM.below⟩
  · have HP := Lib.hid (hP.mono (R' := fun e w' => e = .returned (.tuple #[.int .i64 (pVal N l), .nilIface]) ∧ Below w.heap.size w w') (by
      rintro e w' ⟨⟨-, h⟩ | ⟨h, -⟩, hb⟩
      · exact ⟨h, hb⟩
      · rw [hp] at h; cases h))
    clear hP hE hp
    go_enter Tryz.func40, Tryz.ntmps40
    go_wp2_with (first | (go_at_call 54; refine (HP.out).mono ?_; rintro e W' ⟨rfl, hb'⟩; have hM' := hM.call hb'; clear hM hb'; have hM := hM'; clear hM'))
    refine bodyPost_ret (results_tmp2 rfl _ _ _) rfl ?_
    exact ⟨rfl, hM.below⟩

/-- What a word tells of a spot, loosely. -/
def spE (l : List UInt8) : List UInt8 := (Lib.cut l [44]).1
def spS (l : List UInt8) : List UInt8 := (Lib.cut l [44]).2.1
def spOk (l : List UInt8) : Bool := pOk 8 (spE l) && pOk 8 (spS l)
def spX (l : List UInt8) : Int := IntKind.i8.wrap (pVal 8 (spE l))
def spY (l : List UInt8) : Int := IntKind.i8.wrap (pVal 8 (spS l))
theorem run_buildSp (x y : Int) (W : World) : (Instr.build 41 #[(0, .int .i8 x), (1, .int .i8 y)]).run Tryz.prog W = .ok (.agg (arr 2 (sp x y))) W := by kernel_rfl
theorem wpList_buildSp {ops : Array Oper} {rest : List Oper} {o : Oper} {a : Act} {W : World} {Q : Exit → Act → World → Prop} (hgd : o.guard = none) (x y : Operand) (ho : o.op = .build 41 #[(0, x), (1, y)]) (u v : Int) (hx : a.eval x = .int .i8 u) (hy : a.eval y = .int .i8 v)
    (h : wpList Tryz.prog ops Q rest (a.put o.dst (.agg (arr 2 (sp u v)))) W) : wpList Tryz.prog ops Q (o :: rest) a W := by
  refine wpList_plain hgd fun K hK => ?_
  unfold Oper.wp execOp
  have e : (Array.map (fun (z : Nat × Operand) => match z with | (i, x) => (i, a.eval x)) #[(0, x), (1, y)]) = #[(0, .int .i8 u), (1, .int .i8 v)] := by simp [hx, hy]
  simp only [ho, e, Sem.run_bind, Sem.run_pure, run_buildSp, Result.andThen_ok]
  exact hK _ _ h
set_option maxRecDepth 100000 in
set_option maxHeartbeats 2000000 in
theorem parseSpot_any {a : Nat → Addr} (l : List UInt8) (hl : l.length ≤ 1048576) (w : World) (hE : PEnv a w) :
    Calls Tryz.prog 31 #[.string (bs l)] w fun e w' => ∃ v N, e = .returned (.tuple #[.agg (arr 2 (sp (spX l) (spY l))), v]) ∧ EvK a 1 (spOk l) v N ∧ Mem (Base.of w) N w' ∧ ∀ p, p ∈ N → w.heap.size ≤ p.1 := by
  have hM := Mem.nil w
  have HE := Lib.hid hE
  have l1 := cut_len1 l [44]
  have l2 := cut_len2 l [44]
  have HC := Lib.hid (cut_any l 44 hl)
  have HX := Lib.hid (show spX l = IntKind.i8.wrap (pVal 8 (spE l)) from rfl)
  have HY := Lib.hid (show spY l = IntKind.i8.wrap (pVal 8 (spS l)) from rfl)
  have HO := Lib.hid (show spOk l = (pOk 8 (spE l) && pOk 8 (spS l)) from rfl)
  rw [show (Lib.cut l [44]).1 = spE l from rfl] at HC l1
  rw [show (Lib.cut l [44]).2.1 = spS l from rfl] at HC l2
  generalize (Lib.cut l [44]).2.2 = cb at HC
  obtain ⟨u, hu⟩ : ∃ u, spE l = u := ⟨_, rfl⟩
  obtain ⟨v, hv⟩ : ∃ v, spS l = v := ⟨_, rfl⟩
  rw [hu] at HC l1 HX HO
  rw [hv] at HC l2 HY HO
  have HU := Lib.hid (fun (W : World) (h : PEnv a W) => parseNumber_any 8 8 (.inl ⟨rfl, rfl⟩) u (by omega) W h)
  have HV := Lib.hid (fun (W : World) (h : PEnv a W) => parseNumber_any 8 8 (.inl ⟨rfl, rfl⟩) v (by omega) W h)
  rw [HX.out, HY.out, HO.out]
  obtain ⟨e1, he1⟩ : ∃ e1, evN a (pOk 8 u) = e1 := ⟨_, rfl⟩
  obtain ⟨e2, he2⟩ : ∃ e2, evN a (pOk 8 v) = e2 := ⟨_, rfl⟩
  have K1 := Lib.hid (show EvK a 0 (pOk 8 u) e1 [] by rw [← he1]; exact evN_k _ _ _ _)
  have K2 := Lib.hid (show EvK a 0 (pOk 8 v) e2 [] by rw [← he2]; exact evN_k _ _ _ _)
  rw [he1] at HU
  rw [he2] at HV
  generalize pVal 8 u = x at HU ⊢
  generalize pVal 8 v = y at HV ⊢
  generalize pOk 8 u = ou at K1 ⊢
  generalize pOk 8 v = ov at K2 ⊢
  clear he1 he2 HX HY HO hu hv hE
  have tk_b2 : True := trivial; have tk_n1 : True := trivial; have tk_n2 : True := trivial; have tk_l2 : True := trivial; have tk_s2 : True := trivial
  go_enter Tryz.func31, Tryz.ntmps31
  go_wp2_with (first | (have _t := tk_b2; refine wpList_zero rfl _ rfl (zeroTab _ _ _ rfl) hM ?_; intro b2 W' hb2 hM'; clear hM tk_b2; have hM := hM'; clear hM') | (go_at_call 39; refine (HC.out _ (HE.out.max.below hM.below)).mono ?_; rintro e W' ⟨rfl, hb'⟩; have hM' := hM.call hb'; clear hM hb'; have hM := hM'; clear hM') | (have _t := tk_n1; (go_at_call 40; refine (HU.out _ (HE.out.below hM.below)).mono ?_; rintro e W' ⟨rfl, hb'⟩; have hM' := hM.call hb'; clear hM hb'; have hM := hM'; clear hM'); clear tk_n1) | (have _t := tk_n2; (go_at_call 40; refine (HV.out _ (HE.out.below hM.below)).mono ?_; rintro e W' ⟨rfl, hb'⟩; have hM' := hM.call hb'; clear hM hb'; have hM := hM'; clear hM'); clear tk_n2) | (refine wpList_buildSp rfl _ _ rfl _ _ rfl rfl ?_) | (have _t := tk_l2; refine wpList_lit2 rfl _ _ _ _ rfl e1 e2 rfl rfl K1.out.one K2.out.one _ errs_under err_info2 hM ?_; intro bn W' hbn hM'; clear hM tk_l2; have hM := hM'; clear hM') | (go_at_call 41; refine (join2_any 0 ou ov e1 e2 [] bn 2 _ K1.out K2.out (hM.ats 0 _ _ _ rfl)).mono ?_; rintro e W' ⟨ve, N, rfl, hv, hN, hge⟩; have Hv := Lib.hid hv; have Hg := Lib.hid (fun p hp => Nat.le_trans hM.size (hge p hp)); have hM' := hM.back hN hge; simp only [List.cons_append, List.nil_append] at hM'; clear hM hN hge hv; have hM := hM'.drop; clear hM') | (have _t := tk_s2; (refine wpList_lay rfl _ _ _ rfl _ _ rfl _ _ rfl hM 0 rfl (by assumption) (rowTab _ _ rfl) (by omega) ?_ ?_; (first | (intro _ _; rfl) | (intro k _; exact h1 _) | (intro k _; simp only [lay, upd]; (repeat' split) <;> first | exact h1 _ | rfl)); intro W' hM'; clear hM; have hM := hM'; clear hM'; simp only [List.set] at hM); clear tk_s2))
  have hM1 := hM.re 0 rfl (sp (IntKind.i8.wrap x) (IntKind.i8.wrap y)) (fun j hj => by simp [lay, hj])
  simp only [List.set_cons_zero] at hM1
  refine bodyPost_ret (results_at2 rfl _ rfl (hM1.ats 0 _ _ _ rfl) (rowTab _ _ rfl) _ rfl) rfl ?_
  exact ⟨ve, N, rfl, Hv.out.mono (fun p hp => by simpa using hp), hM1.drop, Hg.out⟩
end Go.Proofs.YtaaphdbaocjecaaGreatDoor

/-
  laws.toInt16A10, toInt16A10A10, toUint16A10, toPasture: each hands back what it is handed.
-/
namespace Go.Proofs.YtaaphdbaocjecaaGreatDoor
open Go Go.RowKit Go.BigFrame

end Go.Proofs.YtaaphdbaocjecaaGreatDoor

/-
  laws.toSpot by contract.
-/
namespace Go.Proofs.YtaaphdbaocjecaaGreatDoor
open Go Go.RowKit Go.BigFrame

end Go.Proofs.YtaaphdbaocjecaaGreatDoor

/-
  A spot out of a reading.
-/
namespace Go.Proofs.YtaaphdbaocjecaaGreatDoor
open Go Go.RowKit Go.BigFrame Go.ChangeShapes Go.WideShapes Go.Deep

section
variable {H : Type} {enc : TypeId × Value → H} {w : World} {base : Nat} {spare : Nat → Bool} {held : Bool}
end
end Go.Proofs.YtaaphdbaocjecaaGreatDoor

/-
  A hurdle's cells; laws.toHurdle by contract.
-/
namespace Go.Proofs.YtaaphdbaocjecaaGreatDoor
open Go Go.RowKit Go.BigFrame

theorem hd_one (x y : Int) (s : Bool) (k : Nat) : (hd x y s k).oneCell' = true := by
  unfold hd
  split
  · rfl
  · split <;> rfl
theorem hd_sp (x y : Int) (s : Bool) : arr 2 (fun k => hd x y s (0 + k)) = arr 2 (sp x y) := arr_congr fun k hk => by
  rcases (show k = 0 ∨ k = 1 by omega) with rfl | rfl <;> rfl
end Go.Proofs.YtaaphdbaocjecaaGreatDoor

/-
  Hurdle: its cells; argument lists; laws.szHurdleS, toHurdle, toHurdleS by contracts.
-/
namespace Go.Proofs.YtaaphdbaocjecaaGreatDoor
open Go Go.RowKit Go.BigFrame Go.ChangeShapes Go.WideShapes Go.Deep

/-- The cells. -/
def vHurdle (h : Nat → Int) : Nat → Value := hd (h 0) (h 1) (h 2 == 1)
def zHurdle : Nat → Value := hd 0 0 false
theorem rowHurdle : RowT Tryz.prog 43 3 := ⟨⟨_, Tryz.underlying43, rfl⟩, by kernel_rfl⟩
theorem zeroHurdle : (Tryz.prog.info? 43).map (·.zero) = some (some (.agg (arr 3 zHurdle))) := by kernel_rfl
theorem infoHurdle : (Tryz.prog.info? 43).map (fun i => (i.size, i.zero, i.bytes)) = some (3, some (.agg (arr 3 zHurdle)), 3) := by kernel_rfl
structure FitsHurdle (h : Nat → Int) : Prop where
  c0 : (-128 : Int) ≤ h 0 ∧ h 0 ≤ 127
  c1 : (-128 : Int) ≤ h 1 ∧ h 1 ≤ 127
  c2 : (0 : Int) ≤ h 2 ∧ h 2 ≤ 1
def sHurdle (hs : Nat → Nat → Int) : Nat → Value := fun k => vHurdle (hs (k / 3)) (k % 3)
theorem sHurdle_row (hs : Nat → Nat → Int) (k j : Nat) (hj : j < 3) : sHurdle hs (k * 3 + j) = vHurdle (hs k) j := by
  unfold sHurdle
  rw [show (k * 3 + j) / 3 = k by omega, show (k * 3 + j) % 3 = j by omega]
def HurdleArg (W : World) (v : Value) (n : Nat) (hs : Nat → Nat → Int) : Prop :=
  (n = 0 ∧ v = .slice none 0 0) ∨ ∃ b o c, v = .slice (some ⟨b, o, none⟩) n c ∧ Lies W b o (n * 3) (sHurdle hs)
theorem HurdleArg.below {w W : World} {v : Value} {n : Nat} {hs : Nat → Nat → Int} (h : HurdleArg w v n hs) (hb : Below w.heap.size w W) : HurdleArg W v n hs := by
  rcases h with h | ⟨b, o, c, e, h⟩
  · exact .inl h
  · exact .inr ⟨b, o, c, e, h.below hb⟩
theorem spHurdle0 (h : Nat → Int) : arr 2 (fun k => vHurdle h (0 + k)) = arr 2 (sp (h 0) (h 1)) := arr_congr fun k hk => by
  rcases (show k = 0 ∨ k = 1 by omega) with rfl | rfl <;> rfl
section
variable {H : Type} {enc : TypeId × Value → H} {w : World} {base : Nat} {spare : Nat → Bool} {held : Bool}
end

/-- A new list. -/
def GivenHurdle (n : Nat) (hs : Nat → Nat → Int) (w : World) (e : Ending) (w' : World) : Prop := ∃ b, e = .returned (.slice (some ⟨b, 0, none⟩) n n) ∧ w.heap.size ≤ b ∧ At w' b (n * 3) (sHurdle hs) ∧ Below w.heap.size w w'
end Go.Proofs.YtaaphdbaocjecaaGreatDoor

/-
  spec.l01Number by contract.
-/
namespace Go.Proofs.YtaaphdbaocjecaaGreatDoor
open Go Go.RowKit Go.BigFrame

theorem numB9_long {l : List UInt8} (h : 9 < l.length) : numB9 l = false := by unfold numB9; rw [decide_eq_false (by omega)]; simp
theorem numB9_zero {l : List UInt8} (h : byteL l 0 = 48) (h1 : 1 < l.length) : numB9 l = false := by
  cases l with
  | nil => simp at h1
  | cons a r =>
    have ha : a = 48 := by
      have : a.toNat = 48 := by simpa [byteL] using h
      exact UInt8.toNat_inj.1 this
    subst ha
    have : (decide (1 < (48 :: r : List UInt8).length)) = true := decide_eq_true h1
    unfold numB9
    rw [this]; simp
theorem numB9_dig {l : List UInt8} {k : Nat} (hk : k < l.length) (h : byteL l k < 48 ∨ 57 < byteL l k) : numB9 l = false := by
  have : l.all isD = false := by
    rw [List.all_eq_false]
    refine ⟨l[k]'hk, List.getElem_mem hk, ?_⟩
    rw [byteL_eq hk] at h
    intro e
    have := isD_iff.1 e
    omega
  unfold numB9; rw [this]; simp
theorem numB9_yes {l : List UInt8} (h0 : l ≠ []) (h9 : l.length ≤ 9) (hh : byteL l 0 ≠ 48 ∨ l.length ≤ 1) (hd : ∀ k, k < l.length → 48 ≤ byteL l k ∧ byteL l k ≤ 57) : numB9 l = true := by
  have ha : l.all isD = true := by
    rw [List.all_eq_true]
    intro d hm
    obtain ⟨k, hk, rfl⟩ := List.getElem_of_mem hm
    have := hd k hk
    rw [byteL_eq hk] at this
    exact isD_iff.2 this
  unfold numB9
  rw [ha, decide_eq_true h9]
  cases l with
  | nil => exact absurd rfl h0
  | cons a r =>
    simp only [List.isEmpty_cons, Bool.not_false, Bool.true_and, Bool.and_true, List.head?_cons, Bool.not_eq_true', Bool.and_eq_false_iff]
    rcases hh with hh | hh
    · left
      rw [beq_eq_false_iff_ne]
      intro e
      apply hh
      simp at e
      simp [byteL, e]
    · right; exact decide_eq_false (by omega)

def numV (l : List UInt8) : Int := if numB9 l then valD l else 0
theorem numV_no {l : List UInt8} (h : numB9 l = false) : numV l = 0 := by unfold numV; rw [h]; rfl
theorem numV_yes {l : List UInt8} (h : numB9 l = true) : numV l = valD l := by unfold numV; rw [h]; rfl
theorem bs_isEmpty (l : List UInt8) : (bs l).toList.isEmpty = l.isEmpty := by rw [ByteArray.toList_eq, bs_data]
theorem ret_two {a b : Value} {x y : Value} (h : a = x) (h2 : b = y) : Ending.returned (.tuple #[a, b]) = .returned (.tuple #[x, y]) := by rw [h, h2]

set_option maxRecDepth 100000 in
set_option maxHeartbeats 4000000 in
theorem l01Number_any (l : List UInt8) (w : World) :
    Calls Tryz.prog 17 #[.string (bs l)] w fun e w' => e = .returned (.tuple #[.int .i64 (numV l), .bool (numB9 l)]) ∧ Below w.heap.size w w' := by
  have hM := Mem.nil w
  by_cases h0 : l = []
  · subst h0
    have hE : (bs []).toList.isEmpty = true := bs_isEmpty []
    have hq : numB9 [] = false := rfl
    go_enter Tryz.func17, Tryz.ntmps17
    go_wp2
    refine bodyPost_ret (results_tmp2 rfl _ _ _) rfl ?_
    exact ⟨by rw [numV_no hq, hq]; rfl, hM.below⟩
  have hE : (bs l).toList.isEmpty = false := by
    rw [bs_isEmpty]; cases l with
    | nil => exact absurd rfl h0
    | cons a r => rfl
  have hz : (bs l).size = l.length := bs_size l
  by_cases h9 : 9 < l.length
  · have d1 : decide ((l.length : Int) > 9) = true := decide_eq_true (by omega)
    have d2 : (9 : Int) < l.length := by omega
    have Hq := Lib.hid (numB9_long h9)
    go_enter Tryz.func17, Tryz.ntmps17
    go_wp2
    refine bodyPost_ret (results_tmp2 rfl _ _ _) rfl ?_
    exact ⟨by rw [numV_no Hq.out, Hq.out]; rfl, hM.below⟩
  have d1 : decide ((l.length : Int) > 9) = false := decide_eq_false (by omega)
  have d2 : ¬ (9 : Int) < l.length := by omega
  have hpos : 0 < l.length := List.length_pos_iff.2 h0
  by_cases hh : byteL l 0 = 48 ∧ 1 < l.length
  · have Hq := Lib.hid (numB9_zero hh.1 hh.2)
    have b0 : ((byteL l 0 : Nat) : Int) = 48 := by omega
    have d3 : decide ((l.length : Int) > 1) = true := decide_eq_true (by omega)
    have d4 : (1 : Int) < l.length := by omega
    clear hh
    go_enter Tryz.func17, Tryz.ntmps17
    go_wp2_with (first | (refine wpList_gidx rfl _ _ rfl l rfl 0 hpos rfl _ b0 ?_))
    refine bodyPost_ret (results_tmp2 rfl _ _ _) rfl ?_
    exact ⟨by rw [numV_no Hq.out, Hq.out]; rfl, hM.below⟩
  obtain ⟨v0, hv0⟩ : ∃ v : Int, ((byteL l 0 : Nat) : Int) = v := ⟨_, rfl⟩
  have hcase : (v0 = 48 ∧ l.length = 1) ∨ v0 ≠ 48 := by
    by_cases e : v0 = 48
    · exact .inl ⟨e, by have : ¬ (byteL l 0 = 48 ∧ 1 < l.length) := hh; omega⟩
    · exact .inr e
  have hfin : byteL l 0 ≠ 48 ∨ l.length ≤ 1 := by omega
  have Hfin := Lib.hid hfin
  have H0 := Lib.hid h0
  clear hh hfin h0
  have main : ∀ (Q : Exit → Act → World → Prop), True := fun _ => trivial
  rcases hcase with ⟨e0, e1⟩ | e0
  all_goals
    first
    | (have q0 : (v0 == 48) = true := by rw [beq_iff_eq]; exact e0)
    | (have q0 : (v0 == 48) = false := by rw [beq_eq_false_iff_ne]; exact e0)
    first
    | (have q1 : decide (v0 = 48) = true := decide_eq_true e0)
    | (have q1 : decide (v0 = 48) = false := decide_eq_false e0)
    first
    | (have d3 : decide ((l.length : Int) > 1) = false := decide_eq_false (by omega))
    | skip
    first
    | (have d4 : ¬ (1 : Int) < l.length := by omega)
    | skip
    have E0 := Lib.hid e0
    clear e0 main
    go_enter Tryz.func17, Tryz.ntmps17
    go_wp2_with (first | (refine wpList_gidx rfl _ _ rfl l rfl 0 hpos rfl _ hv0 ?_))
    go_loopw [4, 5] (fun n i wr => ∃ k : Nat, k ≤ l.length ∧ n = .int .i64 (valD (l.take k)) ∧ i = .int .i64 k ∧ Hid (∀ j, j < k → 48 ≤ byteL l j ∧ byteL l j ≤ 57) ∧ Mem (Base.of w) [] wr) (fun _ i _ => l.length - (intOf i).toNat)
    case atStart => exact ⟨0, by omega, rfl, rfl, Lib.hid (fun j hj => absurd hj (by omega)), hM⟩
    case round =>
      clear hM
      obtain ⟨k, hk, rfl, rfl, hd, hM⟩ := hrel
      by_cases hlt : k < l.length
      · have l2 : (k : Int) < l.length := by omega
        obtain ⟨v, bv⟩ : ∃ v : Int, ((byteL l k : Nat) : Int) = v := ⟨_, rfl⟩
        have hv255 := byteL_le l k
        by_cases h48 : v < 48
        · have Hq := Lib.hid (numB9_dig hlt (.inl (by omega)))
          go_wp2_with (first | (refine wpList_idx rfl _ _ rfl l rfl k hlt rfl _ bv ?_) | (refine wpList_gidx rfl _ _ rfl l rfl k hlt rfl _ bv ?_))
          refine bodyPost_ret (results_tmp2 rfl _ _ _) rfl ?_
          exact ⟨by rw [numV_no Hq.out, Hq.out]; rfl, hM.below⟩
        by_cases h57 : 57 < v
        · have Hq := Lib.hid (numB9_dig hlt (.inr (by omega)))
          go_wp2_with (first | (refine wpList_idx rfl _ _ rfl l rfl k hlt rfl _ bv ?_) | (refine wpList_gidx rfl _ _ rfl l rfl k hlt rfl _ bv ?_))
          refine bodyPost_ret (results_tmp2 rfl _ _ _) rfl ?_
          exact ⟨by rw [numV_no Hq.out, Hq.out]; rfl, hM.below⟩
        have hval := valD_take hlt
        have hlt2 := valD_lt k (l.take k) (by rw [List.length_take]; omega) (fun d hm => by
          obtain ⟨j, hj, rfl⟩ := List.getElem_of_mem hm
          rw [List.length_take] at hj
          rw [List.getElem_take]
          have := hd.out j (by omega)
          rw [byteL_eq (by omega)] at this
          exact isD_iff.2 this)
        have hp : 10 ^ k ≤ 10 ^ 8 := Nat.pow_le_pow_right (by decide) (by omega)
        obtain ⟨u, hu⟩ : ∃ u : Int, ((valD (l.take k) : Nat) : Int) = u := ⟨_, rfl⟩
        have hu2 : 0 ≤ u ∧ u < 100000000 := by omega
        have c1 : IntKind.u8.wrap (v - 48) = v - 48 := IntWalk.u8_in _ (by omega)
        have c2 : IntKind.i64.wrap (v - 48) = v - 48 := IntWalk.i64_in _ (by omega)
        have c3 : IntKind.i64.wrap (10 * u) = 10 * u := IntWalk.i64_in _ (by omega)
        have c4 : IntKind.i64.wrap (10 * u + (v - 48)) = 10 * u + (v - 48) := IntWalk.i64_in _ (by omega)
        have Hn := Lib.hid (show ((valD (l.take (k + 1)) : Nat) : Int) = 10 * u + (v - 48) by rw [hval]; omega)
        have Hd := Lib.hid (show ∀ j, j < k + 1 → 48 ≤ byteL l j ∧ byteL l j ≤ 57 from fun j hj => by
          by_cases e : j = k
          · subst e; omega
          · exact hd.out j (by omega))
        rw [hu]
        clear hval hlt2 hp hu
        go_wp2_with (first | (refine wpList_idx rfl _ _ rfl l rfl k hlt rfl _ bv ?_) | (refine wpList_gidx rfl _ _ rfl l rfl k hlt rfl _ bv ?_))
        go_roundw
        case rel => exact ⟨k + 1, by omega, by rw [Hn.out]; try go_num, by go_num, Hd, hM⟩
        case measure => simp [intOf]; omega
      · obtain rfl : k = l.length := by omega
        have Hq := Lib.hid (numB9_yes H0.out (by omega) Hfin.out hd.out)
        rw [List.take_length]
        go_wp2
        refine bodyPost_ret (results_tmp2 rfl _ _ _) rfl ?_
        exact ⟨by rw [numV_yes Hq.out, Hq.out]; rfl, hM.below⟩
end Go.Proofs.YtaaphdbaocjecaaGreatDoor

/-
  Lists read from texts: what all of them use.
-/
namespace Go.Proofs.YtaaphdbaocjecaaGreatDoor
open Go Go.RowKit Go.BigFrame

theorem pOk_numB {B : Nat} {n : Int} (hB : B ≤ 32) (h1 : 1 ≤ B) (h0 : 0 ≤ n) (h : n < 2 ^ (B - 1)) : pOk B (numB n) = true ∧ pVal B (numB n) = n := pOk_of (parse_numB hB h1 h0 h)
theorem sp_told {x y : Int} (hx : 0 ≤ x ∧ x < 128) (hy : 0 ≤ y ∧ y < 128) : spOk (spotT x y) = true ∧ spX (spotT x y) = x ∧ spY (spotT x y) = y := by
  have hc := spotT_cut x y
  have h1 := pOk_numB (B := 8) (n := x) (by omega) (by omega) hx.1 (by omega)
  have h2 := pOk_numB (B := 8) (n := y) (by omega) (by omega) hy.1 (by omega)
  unfold spOk spX spY spE spS
  rw [hc]
  simp only [h1.1, h1.2, h2.1, h2.2]
  exact ⟨rfl, IntWalk.i8_in _ (by omega), IntWalk.i8_in _ (by omega)⟩
theorem joinT_congr {s : List UInt8} {f g : Nat → List UInt8} {n : Nat} (h : ∀ k, k < n → f k = g k) : joinT s f n = joinT s g n := by
  unfold joinT
  rw [List.map_congr_left (fun k hk => h k (List.mem_range.1 hk))]
theorem part_len (c : UInt8) (l : List UInt8) (j : Nat) : ((partsC c l).getD j []).length ≤ l.length := by
  have key : ∀ (n : Nat) (l : List UInt8), l.length ≤ n → ∀ p, p ∈ partsC c l → p.length ≤ l.length := by
    intro n
    induction n with
    | zero =>
      intro l hl p hp
      obtain rfl : l = [] := List.eq_nil_of_length_eq_zero (by omega)
      simp [partsC] at hp; subst hp; simp
    | succ n ih =>
      intro l hl p hp
      rcases first_c c l with h1 | ⟨u, r, h1, rfl⟩
      · rw [partsC_free l h1] at hp; simp at hp; subst hp; exact Nat.le_refl _
      · rw [partsC_app u r h1] at hp
        simp only [List.length_append, List.length_cons] at hl ⊢
        rcases List.mem_cons.1 hp with rfl | hp
        · omega
        · have := ih r (by omega) p hp
          omega
  rw [List.getD_eq_getElem?_getD]
  by_cases hj : j < (partsC c l).length
  · rw [List.getElem?_eq_getElem hj]
    exact key l.length l (Nat.le_refl _) _ (List.getElem_mem hj)
  · rw [List.getElem?_eq_none (by omega)]; simp
theorem Lst.call {b0 : Base} {K : Blocks} {m n : Nat} {v : Value} {R : Nat → Value} {W W' : World} (h : Lst b0 K m v n R W) (hb : Below W.heap.size W W') : Lst b0 K m v n R W' := by
  rcases h with ⟨h1, h2, h⟩ | ⟨b, c, F, h1, h2, h3, h4, h⟩
  · exact .inl ⟨h1, h2, h.call hb⟩
  · exact .inr ⟨b, c, F, h1, h2, h3, h4, h.call hb⟩
theorem bs_beq (x y : List UInt8) : ((bs x).toList == (bs y).toList) = decide (x = y) := by
  rw [ByteArray.toList_eq, ByteArray.toList_eq, bs_data, bs_data]
  by_cases h : x = y
  · rw [decide_eq_true h, h]; exact beq_self_eq_true _
  · rw [decide_eq_false h, beq_eq_false_iff_ne]; exact h
theorem Lst.same {b0 : Base} {K : Blocks} {m n : Nat} {v : Value} {R R' : Nat → Value} {W : World} (h : Lst b0 K m v n R W) (e : ∀ j, j < n * m → R j = R' j) : Lst b0 K m v n R' W := by
  rcases h with h | ⟨b, c, F, h1, h2, h3, h4, h⟩
  · exact .inl h
  · exact .inr ⟨b, c, F, h1, h2, h3, fun j hj => (h4 j hj).trans (e j hj), h⟩
theorem two_of {ps : List (List UInt8)} (h : ps.length = 2) : ps = [ps.getD 0 [], ps.getD 1 []] := by
  match ps, h with
  | [a, b], _ => rfl
theorem numV_pos {l : List UInt8} : 0 ≤ numV l := by unfold numV; split <;> omega
theorem num_back {l : List UInt8} (h : numB9 l = true) : l = numB (numV l) := by
  rw [numV_yes h]; exact num9_numB h
theorem numV_numB {n : Int} (h0 : 0 ≤ n) (h : n < 1000000000) : numV (numB n) = n := by rw [numV_yes (numB_num9 h0 h), numB_val h0]
/-- Fewer blocks. -/
theorem Mem.fewer {b0 : Base} {L L' : Blocks} {W : World} (h : Mem b0 L W) (hs : L'.Sublist L) : Mem b0 L' W := by
  have hw : L.Pairwise (fun p q => p.1 ≠ q.1) := List.pairwise_iff_getElem.2 fun i j hi hj hlt => h.apart i j _ _ (List.getElem?_eq_getElem hi) (List.getElem?_eq_getElem hj) (by omega)
  have hw2 := List.pairwise_iff_getElem.1 (hw.sublist hs)
  refine ⟨h.good, fun i b n f hi => h.ofK _ (hs.subset (List.mem_of_getElem? hi)), fun i j p q hi hj hne => ?_⟩
  obtain ⟨hil, ei⟩ := List.getElem?_eq_some_iff.1 hi
  obtain ⟨hjl, ej⟩ := List.getElem?_eq_some_iff.1 hj
  rcases Nat.lt_or_gt_of_ne hne with h1 | h1
  · have := hw2 i j hil hjl h1; rwa [ei, ej] at this
  · have := hw2 j i hjl hil h1; rw [ei, ej] at this; exact fun e => this e.symm
/-- A call of l01Split: its list, by one variable. -/
def SplitTo (l : List UInt8) (c : Int) (ps : List (List UInt8)) (n : Nat) : Prop := ∀ w : World, Calls Tryz.prog 15 #[.string (bs l), .int .u8 c] w fun e w' => ∃ b c1 F, e = .returned (.slice (some ⟨b, 0, none⟩) n c1) ∧ w.heap.size ≤ b ∧ n ≤ c1 ∧ (∀ j, j < n → F j = txF ps j) ∧ At w' b (c1 * 1) F ∧ Below w.heap.size w w'
theorem splitTo_any (l : List UInt8) (c : UInt8) (n : Int) (k : Nat) (hn : n = c.toNat) (hl : l.length ≤ 1048576) (hk : (partsC c l).length = k) : SplitTo l n (partsC c l) k := fun w => by
  have := l01Split_new l c n hn hl w
  rwa [hk] at this
end Go.Proofs.YtaaphdbaocjecaaGreatDoor

/-
  impl.parseHurdle by contract.
-/
namespace Go.Proofs.YtaaphdbaocjecaaGreatDoor
open Go Go.RowKit Go.BigFrame Go.Shelf

theorem cutSuffix_any (l p : List UInt8) (hl : l.length ≤ 1048576) (w : World) :
    Calls Tryz.prog 30 #[.string (bs l), .string (bs p)] w fun e w' => e = .returned (.tuple #[.string (bs (Lib.trimSuffix l p)), .bool (Lib.hasSuffix l p)]) ∧ Below w.heap.size w w' := by
  refine (Any.strings_CutSuffix Tryz.csuLays (bs l) (bs p) w (by rw [bs_size]; omega)).mono ?_
  rintro e w' ⟨rfl, rfl⟩
  rw [bs_data, bs_data]
  exact ⟨rfl, Below.refl _ _⟩
theorem trimSuffix_any (l p : List UInt8) (hl : l.length ≤ 1048576) (w : World) :
    Calls Tryz.prog 32 #[.string (bs l), .string (bs p)] w fun e w' => e = .returned (.string (bs (Lib.trimSuffix l p))) ∧ Below w.heap.size w w' := by
  refine (Any.strings_TrimSuffix Tryz.tsuLays (bs l) (bs p) w (by rw [bs_size]; omega)).mono ?_
  rintro e w' ⟨rfl, rfl⟩
  rw [bs_data, bs_data]
  exact ⟨rfl, Below.refl _ _⟩
theorem trim_len (l p : List UInt8) : (Lib.trimSuffix l p).length ≤ l.length := by
  unfold Lib.trimSuffix
  split
  · simp
  · exact Nat.le_refl _
/-- What a word tells of a hurdle, loosely. -/
def fhR (l : List UInt8) : List UInt8 := Lib.trimSuffix l [95]
def fhP (l : List UInt8) : List UInt8 := Lib.trimSuffix (fhR l) [124]
def fhS (l : List UInt8) : Bool := Lib.hasSuffix l [95]
def fhOk (l : List UInt8) : Bool := spOk (fhP l)
def hu3 (x y : Int) (s : Bool) : Nat → Int := fun k => match k with | 0 => x | 1 => y | _ => if s then 1 else 0
def fhV (l : List UInt8) : Nat → Int := hu3 (spX (fhP l)) (spY (fhP l)) (fhS l)
theorem run_buildFe (x y : Int) (s : Bool) (W : World) : (Instr.build 43 #[(0, .agg (arr 2 (sp x y))), (1, .bool s)]).run Tryz.prog W = .ok (.agg (arr 3 (vHurdle (hu3 x y s)))) W := by
  cases s
  · kernel_rfl
  · kernel_rfl
theorem exec_buildFe {o : Oper} {a : Act} (u v : Operand) (ho : o.op = .build 43 #[(0, u), (1, v)]) (x y : Int) (s : Bool) (hu : a.eval u = .agg (arr 2 (sp x y))) (hv : a.eval v = .bool s) (W : World) : (execOp a.eval o).run Tryz.prog W = .ok (.value (.agg (arr 3 (vHurdle (hu3 x y s))))) W := by
  unfold execOp
  have e : (Array.map (fun (z : Nat × Operand) => match z with | (i, x) => (i, a.eval x)) #[(0, u), (1, v)]) = #[(0, .agg (arr 2 (sp x y))), (1, .bool s)] := by simp [hu, hv]
  simp only [ho, e, Sem.run_bind, Sem.run_pure, run_buildFe, Result.andThen_ok]
theorem wpList_valF {ops : Array Oper} {rest : List Oper} {o : Oper} {a : Act} {W : World} {Q : Exit → Act → World → Prop} (hgd : o.guard = none) (v : Value) (hr : ∀ W, (execOp a.eval o).run Tryz.prog W = .ok (.value v) W)
    (h : wpList Tryz.prog ops Q rest (a.put o.dst v) W) : wpList Tryz.prog ops Q (o :: rest) a W := by
  refine wpList_plain hgd fun K hK => ?_
  unfold Oper.wp
  rw [hr W]
  exact hK _ _ h
theorem vHur_one (h : Nat → Int) : ∀ k, k < 3 → (vHurdle h k).oneCell' = true := fun k hk => by
  have : k = 0 ∨ k = 1 ∨ k = 2 := by omega
  rcases this with rfl | rfl | rfl <;> rfl
set_option maxRecDepth 100000 in
set_option maxHeartbeats 2000000 in
theorem parseHurdle_any {a : Nat → Addr} (l : List UInt8) (hl : l.length ≤ 1048576) (w : World) (hE : PEnv a w) :
    Calls Tryz.prog 19 #[.string (bs l)] w fun e w' => ∃ v N, e = .returned (.tuple #[.agg (arr 3 (vHurdle (fhV l))), v]) ∧ EvK a 1 (fhOk l) v N ∧ Mem (Base.of w) N w' ∧ ∀ p, p ∈ N → w.heap.size ≤ p.1 := by
  have hM := Mem.nil w
  have HE := Lib.hid hE
  have l1 := trim_len l [95]
  have l2 := trim_len (fhR l) [124]
  have HC := Lib.hid (cutSuffix_any l [95] hl)
  have HV0 := Lib.hid (show fhV l = hu3 (spX (fhP l)) (spY (fhP l)) (fhS l) from rfl)
  have HO := Lib.hid (show fhOk l = spOk (fhP l) from rfl)
  rw [show Lib.trimSuffix l [95] = fhR l from rfl] at HC l1
  rw [show Lib.hasSuffix l [95] = fhS l from rfl] at HC
  have HT := Lib.hid (trimSuffix_any (fhR l) [124] (by omega))
  rw [show Lib.trimSuffix (fhR l) [124] = fhP l from rfl] at HT l2
  have HV := Lib.hid (fun (W : World) (h : PEnv a W) => parseSpot_any (fhP l) (by omega) W h)
  rw [HV0.out, HO.out]
  generalize fhS l = s at HC ⊢
  generalize spX (fhP l) = x at HV ⊢
  generalize spY (fhP l) = y at HV ⊢
  generalize spOk (fhP l) = ok at HV ⊢
  generalize fhP l = v at HT HV l2
  generalize fhR l = u at HT HC l1 l2
  clear HV0 HO hE
  have tk_b2 : True := trivial; have tk_b6 : True := trivial; have tk_s6 : True := trivial; have tk_g6 : True := trivial; have tk_s2 : True := trivial
  go_enter Tryz.func19, Tryz.ntmps19
  have el : arr 2 (fun j => sp x y (0 + j)) = arr 2 (sp x y) := arr_congr fun j hj => by rw [Nat.zero_add]
  go_wp2_with (first | (have _t := tk_b2; refine wpList_zero rfl _ rfl zeroHurdle hM ?_; intro b2 W' hb2 hM'; clear hM tk_b2; have hM := hM'; clear hM') | (go_at_call 30; refine (HC.out _).mono ?_; rintro e W' ⟨rfl, hb'⟩; have hM' := hM.call hb'; clear hM hb'; have hM := hM'; clear hM') | (go_at_call 32; refine (HT.out _).mono ?_; rintro e W' ⟨rfl, hb'⟩; have hM' := hM.call hb'; clear hM hb'; have hM := hM'; clear hM') | (go_at_call 31; refine (HV.out _ (HE.out.below hM.below)).mono ?_; rintro e W' ⟨e2, N, rfl, hv, hN, hge⟩; have Hv := Lib.hid hv; have Hg := Lib.hid (fun p hp => Nat.le_trans hM.size (hge p hp)); have hM' := hM.back hN hge; simp only [List.cons_append, List.nil_append] at hM'; clear hM hN hge hv; have hM := hM'; clear hM') | (have _t := tk_b6; refine wpList_zero rfl _ rfl (zeroTab _ _ _ rfl) hM ?_; intro b6 W' hb6 hM'; clear hM tk_b6; have hM := hM'; clear hM') | (have _t := tk_s6; (refine wpList_lay rfl _ _ _ rfl _ _ rfl _ _ rfl hM 0 rfl (by assumption) (rowTab _ _ rfl) (by omega) ?_ ?_; (first | (intro _ _; rfl) | (intro k _; exact h1 _) | (intro k _; simp only [lay, upd]; (repeat' split) <;> first | exact h1 _ | rfl)); intro W' hM'; clear hM; have hM := hM'; clear hM'; simp only [List.set] at hM); have hM1 := hM.re 0 rfl (sp x y) (fun j hj => by simp [lay, hj]); simp only [List.set_cons_zero] at hM1; clear hM tk_s6; have hM := hM1; clear hM1) | (have _t := tk_g6; (refine wpList_get rfl _ _ rfl _ _ rfl hM 0 rfl (rowTab _ 2 rfl) (by omega) ?_); rw [el]; clear tk_g6) | (refine wpList_valF rfl _ (exec_buildFe _ _ rfl _ _ _ rfl rfl) ?_) | (have _t := tk_s2; refine wpList_lay rfl _ _ _ rfl _ _ rfl _ _ rfl hM 1 rfl (by assumption) rowHurdle (by omega) (vHur_one _) ?_; intro W' hM'; clear hM tk_s2; have hM := hM'; clear hM'; simp only [List.set] at hM))
  have hM1 := hM.re 1 rfl (vHurdle (hu3 x y s)) (fun j hj => by simp [lay, hj])
  simp only [List.set] at hM1
  refine bodyPost_ret (results_at2 rfl _ rfl (hM1.ats 1 _ _ _ rfl) rowHurdle _ rfl) rfl ?_
  exact ⟨e2, N, rfl, Hv.out, hM1.drop.drop, Hg.out⟩
end Go.Proofs.YtaaphdbaocjecaaGreatDoor

/-
  PLAIN: a read of a block that a drawn region writes; a slice literal of one element in it.
-/
namespace Go.Proofs.YtaaphdbaocjecaaGreatDoor
open Go Go.RowKit Go.BigFrame

section
variable {P : Program} {o : Oper} {a : Act} {w : Base} {L x : Blocks} {K : Act → (World → Prop) → Prop}
/-- A read out of a block that the region writes later. -/
theorem step_getx (ty : TypeId) (y : Operand) (ho : o.op = .load ty y) (b off : Nat) (hx : a.eval y = .pointer (some ⟨b, off, none⟩)) (i : Nat) {n : Nat} {f : Nat → Value} (hi : x[i]? = some (b, n, f)) (hT : CellT P ty) (hle : off < n) (v : Value) (hv : f off = v)
    (h : K (a.put o.dst v) (Mem w (x ++ L))) : stepT P (Mem w L) o a (Mem w (x ++ L)) K := by
  have hil : i < x.length := (List.getElem?_eq_some_iff.1 hi).1
  have hi' : (x ++ L)[i]? = some (b, n, f) := by rw [List.getElem?_append_left hil]; exact hi
  intro W hM
  have hc := (hM.ats i _ _ _ hi').cell hle
  rw [hv] at hc
  refine .inl ⟨_, _, W, .inl ?_, kept_mem w L x, hM, h⟩
  unfold execOp
  simp only [ho, hx, Instr.loadAt, Instr.sureAddr, Sem.run_bind, Sem.run_pure, Result.andThen_ok, run_load_cell hT hc]
theorem step_lit1 (t e : TypeId) (y : Operand) (ho : o.op = .buildSlice t 1 #[(0, y)]) (u : Value) (hx : a.eval y = u) (h0 : u.oneCell' = true) (z : Value)
    (hu : P.underlying t = some (.slice e)) (hz : (P.info? e).map (fun i => (i.size, i.zero)) = some (1, some z))
    (h : ∀ b, w.B ≤ b → K (a.put o.dst (.slice (some ⟨b, 0, none⟩) 1 1)) (Mem w (((b, 1, fun _ => u) :: x) ++ L))) : stepT P (Mem w L) o a (Mem w (x ++ L)) K := by
  obtain ⟨ie, hie, hq⟩ := Option.map_eq_some_iff.1 hz
  simp only [Prod.mk.injEq] at hq
  refine fun W hW => .inl ⟨_, _, _, .inl ?_, kept_mem w L ((W.heap.size, 1, fun _ => u) :: x), hW.alloc e 1 _, h _ hW.size⟩
  have hf : Instr.fill (fun i => some (i * ie.size, ie.size)) ((Array.range (1 * ie.size)).map (z.cells[· % z.cells.size]!)) (Array.map (fun x => match x with | (i, x) => (i, a.eval x)) #[(0, y)]).toList = some (arr 1 fun _ => u) := by
    rw [hq.1]
    rw [show (Array.map (fun x => match x with | (i, x) => (i, a.eval x)) #[(0, y)]).toList = [(0, u)] by simp [hx]]
    rw [fill_cell h0 (off := 0) rfl (by simp), Instr.fill]
    refine congrArg some (arr_ext (by simp) (fun k hk => ?_))
    have : k = 0 := by omega
    subst this
    simp
  unfold execOp
  simp only [ho, Sem.run_bind, run_buildSlice W t e 1 _ (arr 1 fun _ => u) ie z hu hie hq.2 (by rw [hq.1]; omega) (by rw [hq.1]; omega) hf, Result.andThen_ok]
  rfl
end
end Go.Proofs.YtaaphdbaocjecaaGreatDoor

/-
  spec.Decimal by contract.
-/
namespace Go.Proofs.YtaaphdbaocjecaaGreatDoor
open Go Go.RowKit Go.BigFrame

theorem numB_small {n : Int} (h0 : 0 ≤ n) (h : n < 10) : numB n = [UInt8.ofNat (48 + n % 10).toNat] := by
  unfold numB; rw [Lib.decDigits, dif_pos (by omega)]; congr 2; omega
theorem numB_more {n : Int} (h : 10 ≤ n) : numB n = numB (n / 10) ++ [UInt8.ofNat (48 + n % 10).toNat] := by
  unfold numB
  rw [Lib.decDigits, dif_neg (by omega)]
  congr 2
  · congr 1; omega
  · congr 2; omega

/-- A string of the one byte that a block holds. -/
theorem run_str1 {P : Program} {W : World} {src dst e : TypeId} (hs : P.underlying src = some (.slice e)) (he : P.underlying e = some (.int .u8)) (hd : P.underlying dst = some .string) {b n c : Nat} {f : Nat → Value} (hA : At W b n f) (hn : 1 ≤ n) (k : Int) (hf : f 0 = .int .u8 k) :
    (convert src dst (.slice (some ⟨b, 0, none⟩) 1 c)).run P W = .ok (.string (bs [UInt8.ofNat k.toNat])) W := by
  rw [run_convert_bytes_string W src dst e _ _ _ hs he hd]
  have hl : (loadCells ⟨b, 0, none⟩ 1).run P W = .ok ([k].map (Value.int .u8)).toArray W := by
    exact run_loadCells W ⟨b, 0, none⟩ 1 (fun _ => .int .u8 k) (fun j hj => by
      obtain rfl : j = 0 := by omega
      exact (hA.cell (k := 0) (by omega)).trans (congrArg some hf))
  rw [run_bytesToString W _ 1 c [k] hl]
  rfl

section
variable {P : Program} {o : Oper} {a : Act} {w : Base} {L x : Blocks} {K : Act → (World → Prop) → Prop}
theorem step_str1 (src dst e : TypeId) (y : Operand) (ho : o.op = .convert src dst y) (hs : P.underlying src = some (.slice e)) (he : P.underlying e = some (.int .u8)) (hd : P.underlying dst = some .string) (b c : Nat) (hx : a.eval y = .slice (some ⟨b, 0, none⟩) 1 c) (i : Nat) {n : Nat} {f : Nat → Value} (hi : x[i]? = some (b, n, f)) (hn : 1 ≤ n) (k : Int) (hf : f 0 = .int .u8 k)
    (h : K (a.put o.dst (.string (bs [UInt8.ofNat k.toNat]))) (Mem w (x ++ L))) : stepT P (Mem w L) o a (Mem w (x ++ L)) K := by
  have hil : i < x.length := (List.getElem?_eq_some_iff.1 hi).1
  have hi' : (x ++ L)[i]? = some (b, n, f) := by rw [List.getElem?_append_left hil]; exact hi
  intro W hM
  refine .inl ⟨_, _, W, .inl ?_, kept_mem w L x, hM, h⟩
  unfold execOp
  simp only [ho, hx, run_str1 hs he hd (hM.ats i _ _ _ hi') hn k hf, Sem.run_bind, Sem.run_pure, Result.andThen_ok]
end
theorem wpList_str1 {P : Program} {ops : Array Oper} {rest : List Oper} {o : Oper} {a : Act} {W : World} {Q : Exit → Act → World → Prop} (hgd : o.guard = none) (src dst e : TypeId) (y : Operand) (ho : o.op = .convert src dst y) (hs : P.underlying src = some (.slice e)) (he : P.underlying e = some (.int .u8)) (hd : P.underlying dst = some .string) (b c : Nat) (hx : a.eval y = .slice (some ⟨b, 0, none⟩) 1 c) {n : Nat} {f : Nat → Value} (hA : At W b n f) (hn : 1 ≤ n) (k : Int) (hf : f 0 = .int .u8 k)
    (h : wpList P ops Q rest (a.put o.dst (.string (bs [UInt8.ofNat k.toNat]))) W) : wpList P ops Q (o :: rest) a W := by
  refine wpList_plain hgd fun K hK => ?_
  unfold Oper.wp execOp
  simp only [ho, hx, run_str1 hs he hd hA hn k hf, Sem.run_bind, Sem.run_pure, Result.andThen_ok]
  exact hK _ _ h
theorem cat_op {P : Program} {o : Oper} {a : Act} {t t' : TypeId} (x y : Operand) (ho : o.op = .binOp .add t x y t') (u v : List UInt8) (hx : a.eval x = .string (bs u)) (hy : a.eval y = .string (bs v)) (hb : u.length + v.length ≤ 100000000) (W : World) : (execOp a.eval o).run P W = .ok (.value (.string (bs (u ++ v)))) W := by
  unfold execOp
  have hg : (eqGuard .add t x y (.string (bs u)) (.string (bs v))).run P W = .ok () W := rfl
  simp only [ho, hx, hy, binOp, hg, cat_run u v hb W, Sem.run_bind, Sem.run_pure, Result.andThen_ok]
theorem wpList_cat {P : Program} {ops : Array Oper} {rest : List Oper} {o : Oper} {a : Act} {W : World} {Q : Exit → Act → World → Prop} (hgd : o.guard = none) {t t' : TypeId} (x y : Operand) (ho : o.op = .binOp .add t x y t') (u v : List UInt8) (hx : a.eval x = .string (bs u)) (hy : a.eval y = .string (bs v)) (hb : u.length + v.length ≤ 100000000)
    (h : wpList P ops Q rest (a.put o.dst (.string (bs (u ++ v)))) W) : wpList P ops Q (o :: rest) a W := by
  refine wpList_plain hgd fun K hK => ?_
  unfold Oper.wp
  rw [cat_op x y ho u v hx hy hb W]
  exact hK _ _ h
theorem infoU8 : (Tryz.prog.info? 5).map (fun i => (i.size, i.zero)) = some (1, some (.int .u8 0)) := by kernel_rfl
theorem bytes_under : Tryz.prog.underlying 95 = some (.slice 5) := Tryz.underlying95

end Go.Proofs.YtaaphdbaocjecaaGreatDoor

/-
  (impl.Spot).text by contract.
-/
namespace Go.Proofs.YtaaphdbaocjecaaGreatDoor
open Go Go.RowKit Go.BigFrame

set_option maxRecDepth 100000 in
set_option maxHeartbeats 1000000 in
theorem spotText_any (x y : Int) (hx : 0 ≤ x ∧ x ≤ 127) (hy : 0 ≤ y ∧ y ≤ 127) (w : World) (hT : TabP w) :
    Calls Tryz.prog 44 #[.agg (arr 2 (sp x y))] w fun e w' => e = .returned (.string (bs (spotT x y))) ∧ Below w.heap.size w w' := by
  have hM := Mem.nil w
  have e0 : sp x y 0 = .int .i8 x := rfl
  have e1 : sp x y 1 = .int .i8 y := rfl
  have cx : IntKind.i64.wrap x = x := IntWalk.i64_in _ (by omega)
  have cy : IntKind.i64.wrap y = y := IntWalk.i64_in _ (by omega)
  have lx := numB_len (n := x) (by omega)
  have ly := numB_len (n := y) (by omega)
  have HX := Lib.hid (fun (W : World) (h : TabP W) => fmt_any x hx.1 (by omega) W h)
  have HY := Lib.hid (fun (W : World) (h : TabP W) => fmt_any y hy.1 (by omega) W h)
  have HT := Lib.hid hT
  clear hT
  obtain ⟨u, hu⟩ : ∃ u, numB x = u := ⟨_, rfl⟩
  obtain ⟨v, hv⟩ : ∃ v, numB y = v := ⟨_, rfl⟩
  have hr : spotT x y = u ++ [44] ++ v := by unfold spotT; rw [hu, hv]
  rw [hr]
  rw [hu] at HX lx
  rw [hv] at HY ly
  clear hu hv hr
  have tk_b1 : True := trivial
  go_enter Tryz.func44, Tryz.ntmps44
  go_wp2_with (first | (have _t := tk_b1; refine wpList_box rfl _ _ rfl _ _ rfl hM ?_; intro b1 W' hb1 hM'; clear hM tk_b1; have hM := hM'; clear hM'))
  ((try simp only [Act.put, List.setIfInBounds_toArray, List.set_cons_succ, List.set_cons_zero]); refine wp_region_mem (by kernel_rfl) (by kernel_rfl) hM ?_; clear hM; (repeat (first | go_big_quiet_skip | (go_big_quiet_want; first | (refine quiet_get1 _ _ rfl _ _ rfl 0 rfl (cellTab _ rfl) (by omega) _ e0 ?_; (simp only [Act.put, List.setIfInBounds_toArray, List.set_cons_succ, List.set_cons_zero]); go_big_quiet_on) | (refine quiet_get1 _ _ rfl _ _ rfl 0 rfl (cellTab _ rfl) (by omega) _ e1 ?_; (simp only [Act.put, List.setIfInBounds_toArray, List.set_cons_succ, List.set_cons_zero]); go_big_quiet_on) | (refine quiet_call ?_; apply Exists.intro; apply Exists.intro; apply Exists.intro; refine ⟨fun W => ?_, fun W hM => ?_, ?_⟩; (go_simp; exact ⟨rfl, rfl⟩); (with_reducible exact HX.out W (HT.out.below hM.below)); (simp only [Act.put, List.setIfInBounds_toArray, List.set_cons_succ, List.set_cons_zero]); go_big_quiet_on) | (refine quiet_call ?_; apply Exists.intro; apply Exists.intro; apply Exists.intro; refine ⟨fun W => ?_, fun W hM => ?_, ?_⟩; (go_simp; exact ⟨rfl, rfl⟩); (with_reducible exact HY.out W (HT.out.below hM.below)); (simp only [Act.put, List.setIfInBounds_toArray, List.set_cons_succ, List.set_cons_zero]); go_big_quiet_on) | (refine quiet_val ⟨_, fun W => cat_op _ _ rfl _ _ rfl rfl (by simp only [List.length_append, List.length_cons, List.length_nil]; omega) W, ?_⟩; (simp only [Act.put, List.setIfInBounds_toArray, List.set_cons_succ, List.set_cons_zero]); go_big_quiet_on) | (refine quiet_val ?_; apply Exists.intro; refine ⟨fun W => ?_, ?_⟩; (go_simp; (try simp only [cx, cy, if_true, Bool.false_eq_true, if_false]); rfl); (simp only [Act.put, List.setIfInBounds_toArray, List.set_cons_succ, List.set_cons_zero]); go_big_quiet_on)))); (with_reducible refine wpQuiet_nil ?_); intro W' hM)
  go_wp2
  go_ret
  exact ⟨ret_bs (l := u ++ 44 :: v) (by simp), hM.below⟩
end Go.Proofs.YtaaphdbaocjecaaGreatDoor

/-
  spec.l01Ok by contract: is a pasture valid?
-/
namespace Go.Proofs.YtaaphdbaocjecaaGreatDoor
open Go Go.RowKit Go.BigFrame

/-- A cell's grass is as it may be. -/
def cellOk (g : Nat → Int) (y x : Nat) : Bool := inB 0 1000 (g (2 + y * 10 + x)) && (decide (g (2 + y * 10 + x) ≤ 0) || isB g x y)
def mask (g : Nat → Int) : Int := IntKind.u16.wrap (IntKind.u16.wrap (2 ^ (g 0).toNat) - 1)
def badE (g : Nat → Int) (k : Nat) : Bool := bits .andNot .u16 (g (102 + k)) (if (k : Int) < g 1 then mask g / 2 else 0) != 0
def badS (g : Nat → Int) (k : Nat) : Bool := bits .andNot .u16 (g (112 + k)) (if (k : Int) < g 1 - 1 then mask g else 0) != 0
def rowOk (g : Nat → Int) (y : Nat) : Bool := (List.range 10).all (cellOk g y) && !badE g y && !badS g y
/-- Is a pasture valid? -/
def okB (g : Nat → Int) : Bool := inB 1 10 (g 0) && inB 1 10 (g 1) && (List.range 10).all (rowOk g)

theorem badE_in {g : Nat → Int} {k : Nat} (h : (k : Int) < g 1) : badE g k = (bits .andNot .u16 (g (102 + k)) (IntKind.u16.wrap (IntKind.u16.wrap (2 ^ (g 0).toNat) - 1) / 2) != 0) := by simp [badE, mask, h]
theorem badE_out {g : Nat → Int} {k : Nat} (h : g 1 ≤ (k : Int)) : badE g k = (bits .andNot .u16 (g (102 + k)) 0 != 0) := by
  have : ¬ (k : Int) < g 1 := by omega
  simp [badE, this]
theorem badS_in {g : Nat → Int} {k : Nat} (h : (k : Int) < g 1 - 1) : badS g k = (bits .andNot .u16 (g (112 + k)) (IntKind.u16.wrap (IntKind.u16.wrap (2 ^ (g 0).toNat) - 1)) != 0) := by simp [badS, mask, h]
theorem badS_out {g : Nat → Int} {k : Nat} (h : g 1 - 1 ≤ (k : Int)) : badS g k = (bits .andNot .u16 (g (112 + k)) 0 != 0) := by
  have : ¬ (k : Int) < g 1 - 1 := by omega
  simp [badS, this]
theorem rowOk_cell {g : Nat → Int} {y x : Nat} (hx : x < 10) (h : cellOk g y x = false) : rowOk g y = false := by
  have : (List.range 10).all (cellOk g y) = false := by rw [List.all_eq_false]; exact ⟨x, by simpa using hx, by rw [h]; decide⟩
  simp [rowOk, this]
theorem rowOk_E {g : Nat → Int} {y : Nat} (h : badE g y = true) : rowOk g y = false := by simp [rowOk, h]
theorem rowOk_S {g : Nat → Int} {y : Nat} (h : badS g y = true) : rowOk g y = false := by simp [rowOk, h]
theorem rowOk_yes {g : Nat → Int} {y : Nat} (hc : ∀ x, x < 10 → cellOk g y x = true) (hE : badE g y = false) (hS : badS g y = false) : rowOk g y = true := by
  have : (List.range 10).all (cellOk g y) = true := by rw [List.all_eq_true]; intro x hx; exact hc x (by simpa using hx)
  simp [rowOk, this, hE, hS]
theorem okB_no {g : Nat → Int} {y : Nat} (hy : y < 10) (h : rowOk g y = false) : okB g = false := by
  have : (List.range 10).all (rowOk g) = false := by rw [List.all_eq_false]; exact ⟨y, by simpa using hy, by rw [h]; decide⟩
  simp [okB, this]
theorem okB_yes {g : Nat → Int} (b0 : inB 1 10 (g 0) = true) (b1 : inB 1 10 (g 1) = true) (h : ∀ y, y < 10 → rowOk g y = true) : okB g = true := by
  have : (List.range 10).all (rowOk g) = true := by rw [List.all_eq_true]; intro x hx; exact h x (by simpa using hx)
  simp [okB, this, b0, b1]

def OkIn (w : World) (g : Nat → Int) (bp k : Nat) (x : Value) (wr : World) : Prop := ∃ j : Nat, j ≤ 10 ∧ x = .int .i8 j ∧ (∀ i, i < j → cellOk g k i = true) ∧ Mem w [(bp, 122, pas g)] wr
theorem OkIn.step {w : World} {g : Nat → Int} {bp k j : Nat} {W : World} (hj : j < 10) (h : ∀ i, i < j → cellOk g k i = true) (hc : cellOk g k j = true) (hM : Mem w [(bp, 122, pas g)] W) : OkIn w g bp k (.int .i8 ((j : Int) + 1)) W :=
  ⟨j + 1, by omega, by go_num, fun i hi => by
    by_cases e : i = j
    · rw [e]; exact hc
    · exact h i (by omega), hM⟩

end Go.Proofs.YtaaphdbaocjecaaGreatDoor

/-
  The greatest pasture, with no grass: how it is built, what it says of cells.
-/
namespace Go.Proofs.YtaaphdbaocjecaaGreatDoor
open Go Go.RowKit Go.BigFrame

def gMost : Nat → Int := fun k => if k < 2 then 10 else 0
theorem run_greatest (W : World) : (Instr.build 74 #[(0, .int .i8 10), (1, .int .i8 10)]).run Tryz.prog W = .ok (.agg (arr 122 (pas gMost))) W := by kernel_rfl
theorem wpList_greatest {ops : Array Oper} {rest : List Oper} {o : Oper} {a : Act} {W : World} {Q : Exit → Act → World → Prop} (hgd : o.guard = none) (x y : Operand) (ho : o.op = .build 74 #[(0, x), (1, y)])
    (hx : a.eval x = .int .i8 10) (hy : a.eval y = .int .i8 10)
    (h : wpList Tryz.prog ops Q rest (a.put o.dst (.agg (arr 122 (pas gMost)))) W) : wpList Tryz.prog ops Q (o :: rest) a W := by
  refine wpList_plain hgd fun K hK => ?_
  have hr := run_greatest W
  unfold Oper.wp execOp
  simp only [ho, List.map_toArray, List.map_cons, List.map_nil, hx, hy, Sem.run_bind, Sem.run_pure, hr, Result.andThen_ok]
  exact hK _ _ h
theorem fits_most : Fits gMost := ⟨by decide, by decide, fun k h1 h2 => by simp [gMost]; split <;> omega, fun k h1 h2 => by simp [gMost]; split <;> omega⟩
theorem okB_most : okB gMost = true := by kernel_rfl
theorem isB_most (x y : Int) : isB gMost x y = (inB 0 9 x && inB 0 9 y) := rfl
end Go.Proofs.YtaaphdbaocjecaaGreatDoor

/-
  laws.eqSpot on what is equal.
-/
namespace Go.Proofs.YtaaphdbaocjecaaGreatDoor
open Go Go.RowKit Go.BigFrame

set_option maxHeartbeats 400000 in
theorem eqSpot_same (x y : Int) (w : World) :
    Calls Tryz.prog 37 #[.agg (arr 2 (sp x y)), .agg (arr 2 (sp x y))] w fun e w' => e = .returned (.bool true) ∧ Below w.heap.size w w' := by
  have hM := Mem.nil w
  have e0 : sp x y 0 = .int .i8 x := rfl
  have e1 : sp x y 1 = .int .i8 y := rfl
  have tk_b1 : True := trivial; have tk_b2 : True := trivial
  go_enter Tryz.func37, Tryz.ntmps37
  go_wp2_with (first | (have _t := tk_b1; refine wpList_box rfl _ _ rfl _ _ rfl hM ?_; intro b1 W' hb1 hM'; clear hM tk_b1; have hM := hM'; clear hM') | (have _t := tk_b2; refine wpList_box rfl _ _ rfl _ _ rfl hM ?_; intro b2 W' hb2 hM'; clear hM tk_b2; have hM := hM'; clear hM') | (refine wpList_get1 rfl _ _ rfl _ _ rfl hM 1 rfl (cellTab _ rfl) (by omega) _ rfl ?_) | (refine wpList_get1 rfl _ _ rfl _ _ rfl hM 0 rfl (cellTab _ rfl) (by omega) _ rfl ?_))
  go_ret
  exact ⟨rfl, hM.below⟩

end Go.Proofs.YtaaphdbaocjecaaGreatDoor

/-
  laws.eqHurdle, eqHurdleS on what is equal.
-/
namespace Go.Proofs.YtaaphdbaocjecaaGreatDoor
open Go Go.RowKit Go.BigFrame

theorem eqHurdleSpot0 (h : Nat → Int) (w : World) :
    Calls Tryz.prog 37 #[.agg (arr 2 (fun k => vHurdle h (0 + k))), .agg (arr 2 (fun k => vHurdle h (0 + k)))] w fun e w' => e = .returned (.bool true) ∧ Below w.heap.size w w' := by
  rw [spHurdle0]
  exact eqSpot_same _ _ w

set_option maxRecDepth 100000 in
set_option maxHeartbeats 400000 in
theorem eqHurdle_same (h : Nat → Int) (w : World) :
    Calls Tryz.prog 22 #[.agg (arr 3 (vHurdle h)), .agg (arr 3 (vHurdle h))] w fun e w' => e = .returned (.bool true) ∧ Below w.heap.size w w' := by
  have hM := Mem.nil w
  have e2 : vHurdle h 2 = .bool (h 2 == 1) := rfl
  have tk_b1 : True := trivial; have tk_b2 : True := trivial
  go_enter Tryz.func22, Tryz.ntmps22
  go_wp2_with (first | (have _t := tk_b1; refine wpList_box rfl _ _ rfl _ _ rfl hM ?_; intro b1 W' hb1 hM'; clear hM tk_b1; have hM := hM'; clear hM') | (have _t := tk_b2; refine wpList_box rfl _ _ rfl _ _ rfl hM ?_; intro b2 W' hb2 hM'; clear hM tk_b2; have hM := hM'; clear hM') | (refine wpList_get1 rfl _ _ rfl _ _ rfl hM 1 rfl (cellTab _ rfl) (by omega) _ rfl ?_) | (refine wpList_get1 rfl _ _ rfl _ _ rfl hM 0 rfl (cellTab _ rfl) (by omega) _ rfl ?_) | (refine wpList_get rfl _ _ rfl _ _ rfl hM 1 rfl (rowTab _ _ rfl) (by omega) ?_) | (refine wpList_get rfl _ _ rfl _ _ rfl hM 0 rfl (rowTab _ _ rfl) (by omega) ?_) | (first | (go_at_call 37; refine (eqHurdleSpot0 h _).mono ?_; rintro e W' ⟨rfl, hb'⟩; have hM' := hM.call hb'; clear hM hb'; have hM := hM'; clear hM')))
  go_ret
  exact ⟨rfl, hM.below⟩

set_option maxRecDepth 100000 in
set_option maxHeartbeats 1000000 in
/-- eqHurdleS of two lists that hold the same. -/
theorem eqHurdleS_same (b b' n c c' : Nat) (hs : Nat → Nat → Int) (hn : n ≤ maxLen) (w : World) (hA : At w b (n * 3) (sHurdle hs)) (hA' : At w b' (n * 3) (sHurdle hs)) (hne : b ≠ b') :
    Calls Tryz.prog 7 #[.slice (some ⟨b, 0, none⟩) n c, .slice (some ⟨b', 0, none⟩) n c'] w fun e w' => e = .returned (.bool true) ∧ Below w.heap.size w w' := by
  have hM : Mem w [(b, n * 3, sHurdle hs), (b', n * 3, sHurdle hs)] w := ((Mem.nil w).old hA (fun i p h => by simp at h)).old hA' (fun i p h => by
    match i, h with
    | 0, h => simp at h; rw [← h]; exact hne
    | _ + 1, h => simp at h)
  unfold maxLen at hn
  clear hA hA'
  go_enter Tryz.func7, Tryz.ntmps7
  go_wp2
  go_loopw [5] (fun i wr => ∃ k : Nat, k ≤ n ∧ i = .int .i64 k ∧ Mem w [(b, n * 3, sHurdle hs), (b', n * 3, sHurdle hs)] wr) (fun i _ => n - (intOf i).toNat)
  case atStart => exact ⟨0, by omega, rfl, hM⟩
  case round =>
    clear hM
    obtain ⟨k, hk, rfl, hM⟩ := hrel
    by_cases hlt : k < n
    · have l2 : (k : Int) < n := by omega
      have er : arr 3 (fun j => sHurdle hs (k * 3 + j)) = arr 3 (vHurdle (hs k)) := arr_congr fun j hj => sHurdle_row hs k j hj
      go_wp2
      ((try simp only [Act.put, List.setIfInBounds_toArray, List.set_cons_succ, List.set_cons_zero]); refine wp_region_mem (by kernel_rfl) (by kernel_rfl) hM ?_; clear hM; (repeat (first | go_big_quiet_skip | (go_big_quiet_want; first | (refine quiet_get _ _ rfl _ _ rfl 1 rfl rowHurdle (by omega) ?_; (simp only [er]); (simp only [Act.put, List.setIfInBounds_toArray, List.set_cons_succ, List.set_cons_zero]); go_big_quiet_on) | (refine quiet_get _ _ rfl _ _ rfl 0 rfl rowHurdle (by omega) ?_; (simp only [er]); (simp only [Act.put, List.setIfInBounds_toArray, List.set_cons_succ, List.set_cons_zero]); go_big_quiet_on) | (refine quiet_call ?_; apply Exists.intro; apply Exists.intro; apply Exists.intro; refine ⟨fun W => ?_, fun W hM => ?_, ?_⟩; (go_simp; exact ⟨rfl, rfl⟩); (exact eqHurdle_same (hs k) W); (simp only [Act.put, List.setIfInBounds_toArray, List.set_cons_succ, List.set_cons_zero]); go_big_quiet_on) | (refine quiet_val ?_; apply Exists.intro; refine ⟨fun W => ?_, ?_⟩; (go_simp; (try simp only [l2, if_true, Bool.false_eq_true, if_false]); rfl); (simp only [Act.put, List.setIfInBounds_toArray, List.set_cons_succ, List.set_cons_zero]); go_big_quiet_on)))); (with_reducible refine wpQuiet_nil ?_); intro W' hM)
      go_wp2
      go_roundw
      case rel => exact ⟨k + 1, by omega, by go_num, hM⟩
      case measure => simp [intOf]; omega
    · obtain rfl : k = n := by omega
      go_wp2
      go_ret
      exact ⟨rfl, hM.below⟩
end Go.Proofs.YtaaphdbaocjecaaGreatDoor

