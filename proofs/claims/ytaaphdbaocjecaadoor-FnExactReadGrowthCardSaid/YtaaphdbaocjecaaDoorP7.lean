/-
  Several texts in one: ParseN, Conv, ToSpot, ListK, StakeV, StepLit, StepCall, ParseSt, OkS, Greatest, EqSpot, StakeQ, Equal, EqlSpot, StakeE, HasCell.
-/
import Derived.Test.YtaaphdbaocjecaaDoorP5
import Derived.Test.YtaaphdbaocjecaaDoorP6
import Derived.Test.YtaaphdbaocjecaaDoorP1
import Derived.WalkKit
import Derived.OwnWalk
import Derived.BigQuiet
import Derived.Test.YtaaphdbaocjecaaDoorP2
import Derived.Test.YtaaphdbaocjecaaDoorP4
import Derived.Lib.Hide
import Derived.ChangeKeysEq
import Derived.Laws.StructEq
/-
  impl.parseNumber, impl.parseSpot by contracts.
-/
namespace Go.Proofs.YtaaphdbaocjecaaDoor
open Go Go.RowKit Go.BigFrame

/-- What the parsing functions read of the world. -/
structure PEnv (a : Nat → Addr) (W : World) : Prop where
  errs : Errs a W
  num : NumE W
  max : MaxP W
theorem PEnv.below {a : Nat → Addr} {W W' : World} (h : PEnv a W) (hb : Below W.heap.size W W') : PEnv a W' := ⟨h.errs.below hb, h.num.below hb, h.max.below hb⟩
theorem pVal_no {B : Nat} {l : List UInt8} (h : pOk B l = false) : pVal B l = 0 := by
  unfold pOk at h
  unfold pVal
  split at h
  · cases h
  · rename_i hn
    cases hq : Lib.parseIntB B l
    · rename_i v; exact absurd hq (hn v)
    · rfl
    · rfl
theorem parse_any (B : Int) (N : Nat) (hB : (B = 8 ∧ N = 8) ∨ (B = 16 ∧ N = 16)) (l : List UInt8) (hl : l.length ≤ 1048576) (w : World) (h : NumE w) :
    Calls Tryd.prog 39 #[.string (bs l), .int .i64 10, .int .i64 B] w fun e w' => (pOk N l = true ∧ e = .returned (.tuple #[.int .i64 (pVal N l), .nilIface]) ∨ pOk N l = false ∧ ∃ x t p, e = .returned (.tuple #[.int .i64 x, .iface t (.pointer p)])) ∧ Below w.heap.size w w' := by
  rcases hB with ⟨rfl, rfl⟩ | ⟨rfl, rfl⟩
  · exact parse8_any l hl w h
  · exact parse16_any l hl w h
set_option maxRecDepth 100000 in
theorem parseNumber_any {a : Nat → Addr} (B : Int) (N : Nat) (hB : (B = 8 ∧ N = 8) ∨ (B = 16 ∧ N = 16)) (l : List UInt8) (hl : l.length ≤ 1048576) (w : World) (hE : PEnv a w) :
    Calls Tryd.prog 26 #[.string (bs l), .int .i64 B] w fun e w' => e = .returned (.tuple #[.int .i64 (pVal N l), evN a (pOk N l)]) ∧ Below w.heap.size w w' := by
  have hM := Mem.nil w
  have HE := Lib.hid hE
  have hP := parse_any B N hB l hl w hE.num
  cases hp : pOk N l
  · have HP := Lib.hid (hP.mono (R' := fun e w' => (∃ x t p, e = .returned (.tuple #[.int .i64 x, .iface t (.pointer p)])) ∧ Below w.heap.size w w') (by
      rintro e w' ⟨h | ⟨-, h⟩, hb⟩
      · rw [hp] at h; cases h.1
      · exact ⟨h, hb⟩))
    have H0 := Lib.hid (pVal_no hp)
    clear hP hE hp
    go_enter Tryd.func26, Tryd.ntmps26
    go_wp2_with (first | (go_at_call 39; refine (HP.out).mono ?_; rintro e W' ⟨⟨x, t, p, rfl⟩, hb'⟩; have hM' := hM.call hb'; clear hM hb'; have hM := hM'; clear hM'))
    ((try simp only [Act.put, List.setIfInBounds_toArray, List.set_cons_succ, List.set_cons_zero]); refine wp_region_mem (by kernel_rfl) (by kernel_rfl) hM ?_; clear hM; (repeat (first | go_big_quiet_skip | (go_big_quiet_want; first | (refine quiet_old _ _ rfl _ _ rfl (cellTab _ rfl) (errV (a 3)) (fun W hM2 => (HE.out.errs.below hM2.below).vars 3 (by omega)) ?_; (simp only [Act.put, List.setIfInBounds_toArray, List.set_cons_succ, List.set_cons_zero]); go_big_quiet_on) | (refine quiet_val ?_; apply Exists.intro; refine ⟨fun W => ?_, ?_⟩; (go_simp; (try simp only [rfl, if_true, Bool.false_eq_true, if_false]); rfl); (simp only [Act.put, List.setIfInBounds_toArray, List.set_cons_succ, List.set_cons_zero]); go_big_quiet_on)))); (with_reducible refine wpQuiet_nil ?_); intro W' hM)
    go_wp2
    refine bodyPost_ret (results_tmp2 rfl _ _ _) rfl ?_
    rw [H0.out]
    exact ⟨rfl, hM.below⟩
  · have HP := Lib.hid (hP.mono (R' := fun e w' => e = .returned (.tuple #[.int .i64 (pVal N l), .nilIface]) ∧ Below w.heap.size w w') (by
      rintro e w' ⟨⟨-, h⟩ | ⟨h, -⟩, hb⟩
      · exact ⟨h, hb⟩
      · rw [hp] at h; cases h))
    clear hP hE hp
    go_enter Tryd.func26, Tryd.ntmps26
    go_wp2_with (first | (go_at_call 39; refine (HP.out).mono ?_; rintro e W' ⟨rfl, hb'⟩; have hM' := hM.call hb'; clear hM hb'; have hM := hM'; clear hM'))
    refine bodyPost_ret (results_tmp2 rfl _ _ _) rfl ?_
    exact ⟨rfl, hM.below⟩

/-- What a word tells of a spot, loosely. -/
def spE (l : List UInt8) : List UInt8 := (Lib.cut l [44]).1
def spS (l : List UInt8) : List UInt8 := (Lib.cut l [44]).2.1
def spOk (l : List UInt8) : Bool := pOk 8 (spE l) && pOk 8 (spS l)
def spX (l : List UInt8) : Int := IntKind.i8.wrap (pVal 8 (spE l))
def spY (l : List UInt8) : Int := IntKind.i8.wrap (pVal 8 (spS l))
theorem run_buildSp (x y : Int) (W : World) : (Instr.build 49 #[(0, .int .i8 x), (1, .int .i8 y)]).run Tryd.prog W = .ok (.agg (arr 2 (sp x y))) W := by kernel_rfl
theorem wpList_buildSp {ops : Array Oper} {rest : List Oper} {o : Oper} {a : Act} {W : World} {Q : Exit → Act → World → Prop} (hgd : o.guard = none) (x y : Operand) (ho : o.op = .build 49 #[(0, x), (1, y)]) (u v : Int) (hx : a.eval x = .int .i8 u) (hy : a.eval y = .int .i8 v)
    (h : wpList Tryd.prog ops Q rest (a.put o.dst (.agg (arr 2 (sp u v)))) W) : wpList Tryd.prog ops Q (o :: rest) a W := by
  refine wpList_plain hgd fun K hK => ?_
  unfold Oper.wp execOp
  have e : (Array.map (fun (z : Nat × Operand) => match z with | (i, x) => (i, a.eval x)) #[(0, x), (1, y)]) = #[(0, .int .i8 u), (1, .int .i8 v)] := by simp [hx, hy]
  simp only [ho, e, Sem.run_bind, Sem.run_pure, run_buildSp, Result.andThen_ok]
  exact hK _ _ h
set_option maxRecDepth 100000 in
set_option maxHeartbeats 2000000 in
theorem parseSpot_any {a : Nat → Addr} (l : List UInt8) (hl : l.length ≤ 1048576) (w : World) (hE : PEnv a w) :
    Calls Tryd.prog 32 #[.string (bs l)] w fun e w' => ∃ v N, e = .returned (.tuple #[.agg (arr 2 (sp (spX l) (spY l))), v]) ∧ EvK a 1 (spOk l) v N ∧ Mem (Base.of w) N w' ∧ ∀ p, p ∈ N → w.heap.size ≤ p.1 := by
  have hM := Mem.nil w
  have HE := Lib.hid hE
  have l1 := cut_len1 l [44]
  have l2 := cut_len2 l [44]
  have HC := Lib.hid (cut_any l 44 hl)
  have HX := Lib.hid (show spX l = IntKind.i8.wrap (pVal 8 (spE l)) from rfl)
  have HY := Lib.hid (show spY l = IntKind.i8.wrap (pVal 8 (spS l)) from rfl)
  have HO := Lib.hid (show spOk l = (pOk 8 (spE l) && pOk 8 (spS l)) from rfl)
  rw [show (Lib.cut l [44]).1 = spE l from rfl] at HC l1
  rw [show (Lib.cut l [44]).2.1 = spS l from rfl] at HC l2
  generalize (Lib.cut l [44]).2.2 = cb at HC
  obtain ⟨u, hu⟩ : ∃ u, spE l = u := ⟨_, rfl⟩
  obtain ⟨v, hv⟩ : ∃ v, spS l = v := ⟨_, rfl⟩
  rw [hu] at HC l1 HX HO
  rw [hv] at HC l2 HY HO
  have HU := Lib.hid (fun (W : World) (h : PEnv a W) => parseNumber_any 8 8 (.inl ⟨rfl, rfl⟩) u (by omega) W h)
  have HV := Lib.hid (fun (W : World) (h : PEnv a W) => parseNumber_any 8 8 (.inl ⟨rfl, rfl⟩) v (by omega) W h)
  rw [HX.out, HY.out, HO.out]
  obtain ⟨e1, he1⟩ : ∃ e1, evN a (pOk 8 u) = e1 := ⟨_, rfl⟩
  obtain ⟨e2, he2⟩ : ∃ e2, evN a (pOk 8 v) = e2 := ⟨_, rfl⟩
  have K1 := Lib.hid (show EvK a 0 (pOk 8 u) e1 [] by rw [← he1]; exact evN_k _ _ _ _)
  have K2 := Lib.hid (show EvK a 0 (pOk 8 v) e2 [] by rw [← he2]; exact evN_k _ _ _ _)
  rw [he1] at HU
  rw [he2] at HV
  generalize pVal 8 u = x at HU ⊢
  generalize pVal 8 v = y at HV ⊢
  generalize pOk 8 u = ou at K1 ⊢
  generalize pOk 8 v = ov at K2 ⊢
  clear he1 he2 HX HY HO hu hv hE
  have tk_b2 : True := trivial; have tk_n1 : True := trivial; have tk_n2 : True := trivial; have tk_l2 : True := trivial; have tk_s2 : True := trivial
  go_enter Tryd.func32, Tryd.ntmps32
  go_wp2_with (first | (have _t := tk_b2; refine wpList_zero rfl _ rfl (zeroTab _ _ _ rfl) hM ?_; intro b2 W' hb2 hM'; clear hM tk_b2; have hM := hM'; clear hM') | (go_at_call 24; refine (HC.out _ (HE.out.max.below hM.below)).mono ?_; rintro e W' ⟨rfl, hb'⟩; have hM' := hM.call hb'; clear hM hb'; have hM := hM'; clear hM') | (have _t := tk_n1; (go_at_call 26; refine (HU.out _ (HE.out.below hM.below)).mono ?_; rintro e W' ⟨rfl, hb'⟩; have hM' := hM.call hb'; clear hM hb'; have hM := hM'; clear hM'); clear tk_n1) | (have _t := tk_n2; (go_at_call 26; refine (HV.out _ (HE.out.below hM.below)).mono ?_; rintro e W' ⟨rfl, hb'⟩; have hM' := hM.call hb'; clear hM hb'; have hM := hM'; clear hM'); clear tk_n2) | (refine wpList_buildSp rfl _ _ rfl _ _ rfl rfl ?_) | (have _t := tk_l2; refine wpList_lit2 rfl _ _ _ _ rfl e1 e2 rfl rfl K1.out.one K2.out.one _ errs_under err_info2 hM ?_; intro bn W' hbn hM'; clear hM tk_l2; have hM := hM'; clear hM') | (go_at_call 33; refine (join2_any 0 ou ov e1 e2 [] bn 2 _ K1.out K2.out (hM.ats 0 _ _ _ rfl)).mono ?_; rintro e W' ⟨ve, N, rfl, hv, hN, hge⟩; have Hv := Lib.hid hv; have Hg := Lib.hid (fun p hp => Nat.le_trans hM.size (hge p hp)); have hM' := hM.back hN hge; simp only [List.cons_append, List.nil_append] at hM'; clear hM hN hge hv; have hM := hM'.drop; clear hM') | (have _t := tk_s2; (refine wpList_lay rfl _ _ _ rfl _ _ rfl _ _ rfl hM 0 rfl (by assumption) (rowTab _ _ rfl) (by omega) ?_ ?_; (first | (intro _ _; rfl) | (intro k _; exact h1 _) | (intro k _; simp only [lay, upd]; (repeat' split) <;> first | exact h1 _ | rfl)); intro W' hM'; clear hM; have hM := hM'; clear hM'; simp only [List.set] at hM); clear tk_s2))
  have hM1 := hM.re 0 rfl (sp (IntKind.i8.wrap x) (IntKind.i8.wrap y)) (fun j hj => by simp [lay, hj])
  simp only [List.set_cons_zero] at hM1
  refine bodyPost_ret (results_at2 rfl _ rfl (hM1.ats 0 _ _ _ rfl) (rowTab _ _ rfl) _ rfl) rfl ?_
  exact ⟨ve, N, rfl, Hv.out.mono (fun p hp => by simpa using hp), hM1.drop, Hg.out⟩
end Go.Proofs.YtaaphdbaocjecaaDoor

/-
  laws.toInt16A10, toInt16A10A10, toUint16A10, toPasture: each hands back what it is handed.
-/
namespace Go.Proofs.YtaaphdbaocjecaaDoor
open Go Go.RowKit Go.BigFrame

end Go.Proofs.YtaaphdbaocjecaaDoor

/-
  laws.toSpot by contract.
-/
namespace Go.Proofs.YtaaphdbaocjecaaDoor
open Go Go.RowKit Go.BigFrame

end Go.Proofs.YtaaphdbaocjecaaDoor

/-
  A spot out of a reading.
-/
namespace Go.Proofs.YtaaphdbaocjecaaDoor
open Go Go.RowKit Go.BigFrame Go.ChangeShapes Go.WideShapes Go.Deep

section
variable {H : Type} {enc : TypeId × Value → H} {w : World} {base : Nat} {spare : Nat → Bool} {held : Bool}
end
end Go.Proofs.YtaaphdbaocjecaaDoor

/-
  Stake: its cells; argument lists; laws.szStakeS, toStake, toStakeS by contracts.
-/
namespace Go.Proofs.YtaaphdbaocjecaaDoor
open Go Go.RowKit Go.BigFrame Go.ChangeShapes Go.WideShapes Go.Deep

/-- The integer kind of each cell; the cells. -/
def kStake (k : Nat) : IntKind := if k < 2 then .i8 else .i16
def vStake (h : Nat → Int) : Nat → Value := fun k => .int (kStake k) (h k)
def zStake : Nat → Value := fun k => .int (kStake k) 0
theorem rowStake : RowT Tryd.prog 51 3 := ⟨⟨_, Tryd.underlying51, rfl⟩, by kernel_rfl⟩
theorem zeroStake : (Tryd.prog.info? 51).map (·.zero) = some (some (.agg (arr 3 zStake))) := by kernel_rfl
theorem infoStake : (Tryd.prog.info? 51).map (fun i => (i.size, i.zero, i.bytes)) = some (3, some (.agg (arr 3 zStake)), 4) := by kernel_rfl
structure FitsStake (h : Nat → Int) : Prop where
  c0 : (-128 : Int) ≤ h 0 ∧ h 0 ≤ 127
  c1 : (-128 : Int) ≤ h 1 ∧ h 1 ≤ 127
  c2 : (-32768 : Int) ≤ h 2 ∧ h 2 ≤ 32767
def sStake (hs : Nat → Nat → Int) : Nat → Value := fun k => vStake (hs (k / 3)) (k % 3)
theorem sStake_row (hs : Nat → Nat → Int) (k j : Nat) (hj : j < 3) : sStake hs (k * 3 + j) = vStake (hs k) j := by
  unfold sStake
  rw [show (k * 3 + j) / 3 = k by omega, show (k * 3 + j) % 3 = j by omega]
def StakeArg (W : World) (v : Value) (n : Nat) (hs : Nat → Nat → Int) : Prop :=
  (n = 0 ∧ v = .slice none 0 0) ∨ ∃ b o c, v = .slice (some ⟨b, o, none⟩) n c ∧ Lies W b o (n * 3) (sStake hs)
theorem StakeArg.below {w W : World} {v : Value} {n : Nat} {hs : Nat → Nat → Int} (h : StakeArg w v n hs) (hb : Below w.heap.size w W) : StakeArg W v n hs := by
  rcases h with h | ⟨b, o, c, e, h⟩
  · exact .inl h
  · exact .inr ⟨b, o, c, e, h.below hb⟩
theorem spStake0 (h : Nat → Int) : arr 2 (fun k => vStake h (0 + k)) = arr 2 (sp (h 0) (h 1)) := arr_congr fun k hk => by
  rcases (show k = 0 ∨ k = 1 by omega) with rfl | rfl <;> rfl
section
variable {H : Type} {enc : TypeId × Value → H} {w : World} {base : Nat} {spare : Nat → Bool} {held : Bool}
end

/-- A new list. -/
def GivenStake (n : Nat) (hs : Nat → Nat → Int) (w : World) (e : Ending) (w' : World) : Prop := ∃ b, e = .returned (.slice (some ⟨b, 0, none⟩) n n) ∧ w.heap.size ≤ b ∧ At w' b (n * 3) (sStake hs) ∧ Below w.heap.size w w'
end Go.Proofs.YtaaphdbaocjecaaDoor

/-
  PLAIN: a read of a block that a drawn region writes; a slice literal of one element in it.
-/
namespace Go.Proofs.YtaaphdbaocjecaaDoor
open Go Go.RowKit Go.BigFrame

section
variable {P : Program} {o : Oper} {a : Act} {w : Base} {L x : Blocks} {K : Act → (World → Prop) → Prop}
/-- A read out of a block that the region writes later. -/
theorem step_getx (ty : TypeId) (y : Operand) (ho : o.op = .load ty y) (b off : Nat) (hx : a.eval y = .pointer (some ⟨b, off, none⟩)) (i : Nat) {n : Nat} {f : Nat → Value} (hi : x[i]? = some (b, n, f)) (hT : CellT P ty) (hle : off < n) (v : Value) (hv : f off = v)
    (h : K (a.put o.dst v) (Mem w (x ++ L))) : stepT P (Mem w L) o a (Mem w (x ++ L)) K := by
  have hil : i < x.length := (List.getElem?_eq_some_iff.1 hi).1
  have hi' : (x ++ L)[i]? = some (b, n, f) := by rw [List.getElem?_append_left hil]; exact hi
  intro W hM
  have hc := (hM.ats i _ _ _ hi').cell hle
  rw [hv] at hc
  refine .inl ⟨_, _, W, .inl ?_, kept_mem w L x, hM, h⟩
  unfold execOp
  simp only [ho, hx, Instr.loadAt, Instr.sureAddr, Sem.run_bind, Sem.run_pure, Result.andThen_ok, run_load_cell hT hc]
theorem step_lit1 (t e : TypeId) (y : Operand) (ho : o.op = .buildSlice t 1 #[(0, y)]) (u : Value) (hx : a.eval y = u) (h0 : u.oneCell' = true) (z : Value)
    (hu : P.underlying t = some (.slice e)) (hz : (P.info? e).map (fun i => (i.size, i.zero)) = some (1, some z))
    (h : ∀ b, w.B ≤ b → K (a.put o.dst (.slice (some ⟨b, 0, none⟩) 1 1)) (Mem w (((b, 1, fun _ => u) :: x) ++ L))) : stepT P (Mem w L) o a (Mem w (x ++ L)) K := by
  obtain ⟨ie, hie, hq⟩ := Option.map_eq_some_iff.1 hz
  simp only [Prod.mk.injEq] at hq
  refine fun W hW => .inl ⟨_, _, _, .inl ?_, kept_mem w L ((W.heap.size, 1, fun _ => u) :: x), hW.alloc e 1 _, h _ hW.size⟩
  have hf : Instr.fill (fun i => some (i * ie.size, ie.size)) ((Array.range (1 * ie.size)).map (z.cells[· % z.cells.size]!)) (Array.map (fun x => match x with | (i, x) => (i, a.eval x)) #[(0, y)]).toList = some (arr 1 fun _ => u) := by
    rw [hq.1]
    rw [show (Array.map (fun x => match x with | (i, x) => (i, a.eval x)) #[(0, y)]).toList = [(0, u)] by simp [hx]]
    rw [fill_cell h0 (off := 0) rfl (by simp), Instr.fill]
    refine congrArg some (arr_ext (by simp) (fun k hk => ?_))
    have : k = 0 := by omega
    subst this
    simp
  unfold execOp
  simp only [ho, Sem.run_bind, run_buildSlice W t e 1 _ (arr 1 fun _ => u) ie z hu hie hq.2 (by rw [hq.1]; omega) (by rw [hq.1]; omega) hf, Result.andThen_ok]
  rfl
end
end Go.Proofs.YtaaphdbaocjecaaDoor

/-
  PLAIN: in a drawn region, a slice literal of two elements; a call that gives blocks of its own, behind those of the region.
-/
namespace Go.Proofs.YtaaphdbaocjecaaDoor
open Go Go.RowKit Go.BigFrame

section
variable {P : Program} {o : Oper} {a : Act} {w : Base} {L x : Blocks} {K : Act → (World → Prop) → Prop}
theorem step_lit2 (t e : TypeId) (y y' : Operand) (ho : o.op = .buildSlice t 2 #[(0, y), (1, y')]) (u v : Value) (hx : a.eval y = u) (hy : a.eval y' = v) (h0 : u.oneCell' = true) (h1 : v.oneCell' = true) (z : Value)
    (hu : P.underlying t = some (.slice e)) (hz : (P.info? e).map (fun i => (i.size, i.zero)) = some (1, some z))
    (h : ∀ b, w.B ≤ b → K (a.put o.dst (.slice (some ⟨b, 0, none⟩) 2 2)) (Mem w (((b, 2, twoV u v) :: x) ++ L))) : stepT P (Mem w L) o a (Mem w (x ++ L)) K := by
  obtain ⟨ie, hie, hq⟩ := Option.map_eq_some_iff.1 hz
  simp only [Prod.mk.injEq] at hq
  refine fun W hW => .inl ⟨_, _, _, .inl ?_, kept_mem w L ((W.heap.size, 2, twoV u v) :: x), hW.alloc e 2 _, h _ hW.size⟩
  have hf : Instr.fill (fun i => some (i * ie.size, ie.size)) ((Array.range (2 * ie.size)).map (z.cells[· % z.cells.size]!)) (Array.map (fun x => match x with | (i, x) => (i, a.eval x)) #[(0, y), (1, y')]).toList = some (arr 2 (twoV u v)) := by
    rw [hq.1]
    rw [show (Array.map (fun x => match x with | (i, x) => (i, a.eval x)) #[(0, y), (1, y')]).toList = [(0, u), (1, v)] by simp [hx, hy]]
    rw [fill_cell h0 (off := 0) rfl (by simp), fill_cell h1 (off := 1) rfl (by simp), Instr.fill]
    refine congrArg some (arr_ext (by simp) (fun k hk => ?_))
    have : k = 0 ∨ k = 1 := by omega
    rcases this with rfl | rfl <;> simp [twoV]
  unfold execOp
  simp only [ho, Sem.run_bind, run_buildSlice W t e 2 _ (arr 2 (twoV u v)) ie z hu hie hq.2 (by rw [hq.1]; omega) (by rw [hq.1]; omega) hf, Result.andThen_ok]
  rfl
theorem step_call_back {β : Type} (vb : β → Value) (Bk : β → Blocks) (good : β → Prop) (h : ∃ fn args, (∀ W, (execOp a.eval o).run P W = .ok (.enter fn args) W) ∧ (∀ W, Mem w (x ++ L) W → Calls P fn args W fun e w' => ∃ y, e = .returned (vb y) ∧ good y ∧ Mem (Base.of W) (Bk y) w' ∧ ∀ p, p ∈ Bk y → W.heap.size ≤ p.1) ∧
    ∀ y, good y → (∀ p, p ∈ Bk y → w.B ≤ p.1) → K (a.put o.dst (vb y)) (Mem w ((x ++ Bk y) ++ L))) : stepT P (Mem w L) o a (Mem w (x ++ L)) K := by
  obtain ⟨fn, args, hr, hc, h⟩ := h
  refine fun W hW => .inr ⟨fn, args, hr W, (hc W hW).mono fun e w' ⟨y, he, hg, hN, hge⟩ => ⟨vb y, _, he, kept_mem w L (x ++ Bk y), ?_, h y hg (fun p hp => Nat.le_trans hW.size (hge p hp))⟩⟩
  refine (hW.back hN hge).shuf ?_
  rw [List.append_assoc, List.append_assoc]
  exact List.perm_append_comm.append_left x
end
end Go.Proofs.YtaaphdbaocjecaaDoor

/-
  impl.parseStake by contract.
-/
namespace Go.Proofs.YtaaphdbaocjecaaDoor
open Go Go.RowKit Go.BigFrame

/-- What a word tells of a stake, loosely. -/
def stP (l : List UInt8) : List UInt8 := (Lib.cut l [47]).1
def stN (l : List UInt8) : List UInt8 := (Lib.cut l [47]).2.1
def stOk (l : List UInt8) : Bool := spOk (stP l) && pOk 16 (stN l)
def st3 (x y r : Int) : Nat → Int := fun k => match k with | 0 => x | 1 => y | _ => r
def stV (l : List UInt8) : Nat → Int := st3 (spX (stP l)) (spY (stP l)) (IntKind.i16.wrap (pVal 16 (stN l)))
theorem run_buildSt (x y r : Int) (W : World) : (Instr.build 51 #[(0, .agg (arr 2 (sp x y))), (1, .int .i16 r)]).run Tryd.prog W = .ok (.agg (arr 3 (vStake (st3 x y r)))) W := by kernel_rfl
theorem exec_buildSt {o : Oper} {a : Act} (u v : Operand) (ho : o.op = .build 51 #[(0, u), (1, v)]) (x y r : Int) (hu : a.eval u = .agg (arr 2 (sp x y))) (hv : a.eval v = .int .i16 r) (W : World) : (execOp a.eval o).run Tryd.prog W = .ok (.value (.agg (arr 3 (vStake (st3 x y r))))) W := by
  unfold execOp
  have e : (Array.map (fun (z : Nat × Operand) => match z with | (i, x) => (i, a.eval x)) #[(0, u), (1, v)]) = #[(0, .agg (arr 2 (sp x y))), (1, .int .i16 r)] := by simp [hu, hv]
  simp only [ho, e, Sem.run_bind, Sem.run_pure, run_buildSt, Result.andThen_ok]
set_option maxRecDepth 100000 in
set_option maxHeartbeats 2000000 in
theorem parseStake_any {a : Nat → Addr} (l : List UInt8) (hl : l.length ≤ 1048576) (w : World) (hE : PEnv a w) :
    Calls Tryd.prog 21 #[.string (bs l)] w fun e w' => ∃ v N, e = .returned (.tuple #[.agg (arr 3 (vStake (stV l))), v]) ∧ EvK a 2 (stOk l) v N ∧ Mem (Base.of w) N w' ∧ ∀ p, p ∈ N → w.heap.size ≤ p.1 := by
  have hM := Mem.nil w
  have HE := Lib.hid hE
  have l1 := cut_len1 l [47]
  have l2 := cut_len2 l [47]
  have HC := Lib.hid (cut_any l 47 hl)
  have HV0 := Lib.hid (show stV l = st3 (spX (stP l)) (spY (stP l)) (IntKind.i16.wrap (pVal 16 (stN l))) from rfl)
  have HO := Lib.hid (show stOk l = (spOk (stP l) && pOk 16 (stN l)) from rfl)
  rw [show (Lib.cut l [47]).1 = stP l from rfl] at HC l1
  rw [show (Lib.cut l [47]).2.1 = stN l from rfl] at HC l2
  generalize (Lib.cut l [47]).2.2 = cb at HC
  obtain ⟨u, hu⟩ : ∃ u, stP l = u := ⟨_, rfl⟩
  obtain ⟨v, hv⟩ : ∃ v, stN l = v := ⟨_, rfl⟩
  rw [hu] at HC l1 HV0 HO
  rw [hv] at HC l2 HV0 HO
  have HU := Lib.hid (fun (W : World) (h : PEnv a W) => parseSpot_any u (by omega) W h)
  have HV := Lib.hid (fun (W : World) (h : PEnv a W) => parseNumber_any 16 16 (.inr ⟨rfl, rfl⟩) v (by omega) W h)
  rw [HV0.out, HO.out]
  obtain ⟨e2, he2⟩ : ∃ e2, evN a (pOk 16 v) = e2 := ⟨_, rfl⟩
  have K2 := Lib.hid (show ∀ K, EvK a 1 (pOk 16 v) e2 K by rw [← he2]; exact fun K => evN_k _ _ _ _)
  rw [he2] at HV
  generalize pVal 16 v = r at HV ⊢
  generalize spX u = x at HU ⊢
  generalize spY u = y at HU ⊢
  generalize spOk u = ou at HU ⊢
  generalize pOk 16 v = ov at K2 ⊢
  clear he2 HV0 HO hu hv hE
  have tk_b2 : True := trivial; have tk_b7 : True := trivial; have tk_n2 : True := trivial; have tk_l2 : True := trivial; have tk_s2 : True := trivial; have tk_s7 : True := trivial
  go_enter Tryd.func21, Tryd.ntmps21
  go_wp2_with (first | (have _t := tk_b2; refine wpList_zero rfl _ rfl zeroStake hM ?_; intro b2 W' hb2 hM'; clear hM tk_b2; have hM := hM'; clear hM') | (go_at_call 24; refine (HC.out _ (HE.out.max.below hM.below)).mono ?_; rintro e W' ⟨rfl, hb'⟩; have hM' := hM.call hb'; clear hM hb'; have hM := hM'; clear hM') | (go_at_call 32; refine (HU.out _ (HE.out.below hM.below)).mono ?_; rintro e W' ⟨e1, N, rfl, hv, hN, hge⟩; have Hv := Lib.hid hv; have Hg := Lib.hid (fun p hp => Nat.le_trans hM.size (hge p hp)); have hM' := hM.back hN hge; simp only [List.cons_append, List.nil_append] at hM'; clear hM hN hge hv; have hM := hM'; clear hM') | (have _t := tk_b7; refine wpList_zero rfl _ rfl (zeroTab _ _ _ rfl) hM ?_; intro b7 W' hb7 hM'; clear hM tk_b7; have hM := hM'; clear hM') | (have _t := tk_s7; (refine wpList_lay rfl _ _ _ rfl _ _ rfl _ _ rfl hM 0 rfl (by assumption) (rowTab _ _ rfl) (by omega) ?_ ?_; (first | (intro _ _; rfl) | (intro k _; exact h1 _) | (intro k _; simp only [lay, upd]; (repeat' split) <;> first | exact h1 _ | rfl)); intro W' hM'; clear hM; have hM := hM'; clear hM'; simp only [List.set] at hM); clear tk_s7) | (have _t := tk_n2; (go_at_call 26; refine (HV.out _ (HE.out.below hM.below)).mono ?_; rintro e W' ⟨rfl, hb'⟩; have hM' := hM.call hb'; clear hM hb'; have hM := hM'; clear hM'); clear tk_n2))
  have hM1 := hM.re 0 rfl (sp x y) (fun j hj => by simp [lay, hj])
  simp only [List.set_cons_zero] at hM1
  clear hM
  have hM := hM1
  clear hM1
  have el : arr 2 (fun j => sp x y (0 + j)) = arr 2 (sp x y) := arr_congr fun j hj => by rw [Nat.zero_add]
  have hM1 := hM.swap
  clear hM
  have hM := hM1
  clear hM1
  refine region_readsX [0, 1, 2, 4, 5, 3] #[true, true, true, true, true, true, false, false, false, false] 4 [(b2, 3, zStake)] (by kernel_rfl) (by kernel_rfl) (by kernel_rfl) hM ?_
  clear hM
  iterate 5 (refine qs_plain rfl rfl ?_; first | (refine b_get _ _ rfl _ _ rfl 0 rfl (rowTab _ 2 rfl) (by omega) ?_; rw [el]; (simp only [Act.put, List.setIfInBounds_toArray, List.set_cons_succ, List.set_cons_zero])) | (refine b_val ?_; apply Exists.intro; refine ⟨fun W => ?_, ?_⟩; (go_simp; (try simp only [rfl, if_true]); rfl); (simp only [Act.put, List.setIfInBounds_toArray, List.set_cons_succ, List.set_cons_zero])))
  refine qs_plain rfl rfl ?_
  refine b_val ⟨.agg (arr 3 (vStake (st3 x y (IntKind.i16.wrap r)))), fun W => ?_, ?_⟩
  · exact exec_buildSt _ _ rfl _ _ _ rfl rfl W
  simp only [Act.put, List.setIfInBounds_toArray, List.set_cons_succ, List.set_cons_zero]
  with_reducible refine qs_nil ?_
  (refine mix_one (i := 6) (by kernel_rfl) rfl (by kernel_rfl) rfl ?_)
  refine step_lit2 _ _ _ _ rfl e1 e2 rfl rfl Hv.out.one ((K2.out []).one) _ errs_under err_info2 ?_
  intro bn hbn
  simp only [Act.put, List.setIfInBounds_toArray, List.set_cons_succ, List.set_cons_zero]
  (refine mix_one (i := 7) (by kernel_rfl) rfl (by kernel_rfl) rfl ?_)
  refine step_call_back (β := Value × Blocks) (fun y => y.1) (fun y => y.2) (fun y => EvK a 2 (ou && ov) y.1 (y.2 ++ N)) ?_
  apply Exists.intro; apply Exists.intro
  refine ⟨fun W => ?_, fun W hM => ?_, ?_⟩
  · go_simp; exact ⟨rfl, rfl⟩
  · refine (join2_any 1 ou ov e1 e2 N bn 2 W Hv.out (K2.out N) (hM.ats 0 _ _ _ rfl)).mono ?_
    rintro e w' ⟨v, N2, rfl, h1, h2, h3⟩
    exact ⟨(v, N2), rfl, h1, h2, h3⟩
  rintro ⟨ve, N2⟩ hve hge2
  have Hve := Lib.hid hve
  have Hg2 := Lib.hid hge2
  clear hve hge2
  simp only [Act.put, List.setIfInBounds_toArray, List.set_cons_succ, List.set_cons_zero]
  (refine mix_one (i := 8) (by kernel_rfl) rfl (by kernel_rfl) rfl ?_)
  refine step_lay _ _ _ rfl _ _ rfl _ _ rfl 1 rfl (by assumption) rowStake (by omega) (fun _ _ => rfl) ?_
  simp only [Act.put, List.setIfInBounds_toArray, List.set_cons_succ, List.set_cons_zero]
  (refine mix_one (i := 9) (by kernel_rfl) rfl (by kernel_rfl) rfl ?_)
  (refine step_val ?_; apply Exists.intro; refine ⟨fun W => ?_, ?_⟩; (go_simp; rfl); (simp only [Act.put, List.setIfInBounds_toArray, List.set_cons_succ, List.set_cons_zero]))
  (refine mix_end (by kernel_rfl) ?_; intro W' hM; simp only [List.cons_append, List.nil_append] at hM)
  simp only [List.set_cons_succ, List.set_cons_zero, List.cons_append, List.nil_append] at hM
  have hM1 := hM.drop.re 0 rfl (vStake (st3 x y (IntKind.i16.wrap r))) (fun j hj => by simp [lay, hj])
  simp only [List.set_cons_zero] at hM1
  go_wp2
  refine bodyPost_ret (results_at2 rfl _ rfl (hM1.ats 0 _ _ _ rfl) rowStake _ rfl) rfl ?_
  refine ⟨ve, rfl, N2 ++ N, Hve.out, (hM1.drop.shuf List.perm_middle).drop, fun p1 p2 p3 hp => ?_⟩
  rcases List.mem_append.1 hp with h | h
  · exact Hg2.out _ h
  · exact Hg.out _ h
end Go.Proofs.YtaaphdbaocjecaaDoor

/-
  spec.l01Ok by contract: is a pasture valid?
-/
namespace Go.Proofs.YtaaphdbaocjecaaDoor
open Go Go.RowKit Go.BigFrame

/-- A cell's grass is as it may be. -/
def cellOk (g : Nat → Int) (y x : Nat) : Bool := inB 0 1000 (g (2 + y * 10 + x)) && (decide (g (2 + y * 10 + x) ≤ 0) || isB g x y)
def mask (g : Nat → Int) : Int := IntKind.u16.wrap (IntKind.u16.wrap (2 ^ (g 0).toNat) - 1)
def badE (g : Nat → Int) (k : Nat) : Bool := bits .andNot .u16 (g (102 + k)) (if (k : Int) < g 1 then mask g / 2 else 0) != 0
def badS (g : Nat → Int) (k : Nat) : Bool := bits .andNot .u16 (g (112 + k)) (if (k : Int) < g 1 - 1 then mask g else 0) != 0
def rowOk (g : Nat → Int) (y : Nat) : Bool := (List.range 10).all (cellOk g y) && !badE g y && !badS g y
/-- Is a pasture valid? -/
def okB (g : Nat → Int) : Bool := inB 1 10 (g 0) && inB 1 10 (g 1) && (List.range 10).all (rowOk g)

theorem badE_in {g : Nat → Int} {k : Nat} (h : (k : Int) < g 1) : badE g k = (bits .andNot .u16 (g (102 + k)) (IntKind.u16.wrap (IntKind.u16.wrap (2 ^ (g 0).toNat) - 1) / 2) != 0) := by simp [badE, mask, h]
theorem badE_out {g : Nat → Int} {k : Nat} (h : g 1 ≤ (k : Int)) : badE g k = (bits .andNot .u16 (g (102 + k)) 0 != 0) := by
  have : ¬ (k : Int) < g 1 := by omega
  simp [badE, this]
theorem badS_in {g : Nat → Int} {k : Nat} (h : (k : Int) < g 1 - 1) : badS g k = (bits .andNot .u16 (g (112 + k)) (IntKind.u16.wrap (IntKind.u16.wrap (2 ^ (g 0).toNat) - 1)) != 0) := by simp [badS, mask, h]
theorem badS_out {g : Nat → Int} {k : Nat} (h : g 1 - 1 ≤ (k : Int)) : badS g k = (bits .andNot .u16 (g (112 + k)) 0 != 0) := by
  have : ¬ (k : Int) < g 1 - 1 := by omega
  simp [badS, this]
theorem rowOk_cell {g : Nat → Int} {y x : Nat} (hx : x < 10) (h : cellOk g y x = false) : rowOk g y = false := by
  have : (List.range 10).all (cellOk g y) = false := by rw [List.all_eq_false]; exact ⟨x, by simpa using hx, by rw [h]; decide⟩
  simp [rowOk, this]
theorem rowOk_E {g : Nat → Int} {y : Nat} (h : badE g y = true) : rowOk g y = false := by simp [rowOk, h]
theorem rowOk_S {g : Nat → Int} {y : Nat} (h : badS g y = true) : rowOk g y = false := by simp [rowOk, h]
theorem rowOk_yes {g : Nat → Int} {y : Nat} (hc : ∀ x, x < 10 → cellOk g y x = true) (hE : badE g y = false) (hS : badS g y = false) : rowOk g y = true := by
  have : (List.range 10).all (cellOk g y) = true := by rw [List.all_eq_true]; intro x hx; exact hc x (by simpa using hx)
  simp [rowOk, this, hE, hS]
theorem okB_no {g : Nat → Int} {y : Nat} (hy : y < 10) (h : rowOk g y = false) : okB g = false := by
  have : (List.range 10).all (rowOk g) = false := by rw [List.all_eq_false]; exact ⟨y, by simpa using hy, by rw [h]; decide⟩
  simp [okB, this]
theorem okB_yes {g : Nat → Int} (b0 : inB 1 10 (g 0) = true) (b1 : inB 1 10 (g 1) = true) (h : ∀ y, y < 10 → rowOk g y = true) : okB g = true := by
  have : (List.range 10).all (rowOk g) = true := by rw [List.all_eq_true]; intro x hx; exact h x (by simpa using hx)
  simp [okB, this, b0, b1]

def OkIn (w : World) (g : Nat → Int) (bp k : Nat) (x : Value) (wr : World) : Prop := ∃ j : Nat, j ≤ 10 ∧ x = .int .i8 j ∧ (∀ i, i < j → cellOk g k i = true) ∧ Mem w [(bp, 122, pas g)] wr
theorem OkIn.step {w : World} {g : Nat → Int} {bp k j : Nat} {W : World} (hj : j < 10) (h : ∀ i, i < j → cellOk g k i = true) (hc : cellOk g k j = true) (hM : Mem w [(bp, 122, pas g)] W) : OkIn w g bp k (.int .i8 ((j : Int) + 1)) W :=
  ⟨j + 1, by omega, by go_num, fun i hi => by
    by_cases e : i = j
    · rw [e]; exact hc
    · exact h i (by omega), hM⟩

end Go.Proofs.YtaaphdbaocjecaaDoor

/-
  The greatest pasture, with no grass: how it is built, what it says of cells.
-/
namespace Go.Proofs.YtaaphdbaocjecaaDoor
open Go Go.RowKit Go.BigFrame

def gMost : Nat → Int := fun k => if k < 2 then 10 else 0
theorem run_greatest (W : World) : (Instr.build 76 #[(0, .int .i8 10), (1, .int .i8 10)]).run Tryd.prog W = .ok (.agg (arr 122 (pas gMost))) W := by kernel_rfl
theorem wpList_greatest {ops : Array Oper} {rest : List Oper} {o : Oper} {a : Act} {W : World} {Q : Exit → Act → World → Prop} (hgd : o.guard = none) (x y : Operand) (ho : o.op = .build 76 #[(0, x), (1, y)])
    (hx : a.eval x = .int .i8 10) (hy : a.eval y = .int .i8 10)
    (h : wpList Tryd.prog ops Q rest (a.put o.dst (.agg (arr 122 (pas gMost)))) W) : wpList Tryd.prog ops Q (o :: rest) a W := by
  refine wpList_plain hgd fun K hK => ?_
  have hr := run_greatest W
  unfold Oper.wp execOp
  simp only [ho, List.map_toArray, List.map_cons, List.map_nil, hx, hy, Sem.run_bind, Sem.run_pure, hr, Result.andThen_ok]
  exact hK _ _ h
theorem fits_most : Fits gMost := ⟨by decide, by decide, fun k h1 h2 => by simp [gMost]; split <;> omega, fun k h1 h2 => by simp [gMost]; split <;> omega⟩
theorem okB_most : okB gMost = true := by kernel_rfl
theorem isB_most (x y : Int) : isB gMost x y = (inB 0 9 x && inB 0 9 y) := rfl
end Go.Proofs.YtaaphdbaocjecaaDoor

/-
  laws.eqSpot on what is equal.
-/
namespace Go.Proofs.YtaaphdbaocjecaaDoor
open Go Go.RowKit Go.BigFrame

set_option maxHeartbeats 400000 in
theorem eqSpot_same (x y : Int) (w : World) :
    Calls Tryd.prog 36 #[.agg (arr 2 (sp x y)), .agg (arr 2 (sp x y))] w fun e w' => e = .returned (.bool true) ∧ Below w.heap.size w w' := by
  have hM := Mem.nil w
  have e0 : sp x y 0 = .int .i8 x := rfl
  have e1 : sp x y 1 = .int .i8 y := rfl
  have tk_b1 : True := trivial; have tk_b2 : True := trivial
  go_enter Tryd.func36, Tryd.ntmps36
  go_wp2_with (first | (have _t := tk_b1; refine wpList_box rfl _ _ rfl _ _ rfl hM ?_; intro b1 W' hb1 hM'; clear hM tk_b1; have hM := hM'; clear hM') | (have _t := tk_b2; refine wpList_box rfl _ _ rfl _ _ rfl hM ?_; intro b2 W' hb2 hM'; clear hM tk_b2; have hM := hM'; clear hM') | (refine wpList_get1 rfl _ _ rfl _ _ rfl hM 1 rfl (cellTab _ rfl) (by omega) _ rfl ?_) | (refine wpList_get1 rfl _ _ rfl _ _ rfl hM 0 rfl (cellTab _ rfl) (by omega) _ rfl ?_))
  go_ret
  exact ⟨rfl, hM.below⟩

end Go.Proofs.YtaaphdbaocjecaaDoor

/-
  laws.eqStake, eqStakeS on what is equal.
-/
namespace Go.Proofs.YtaaphdbaocjecaaDoor
open Go Go.RowKit Go.BigFrame

theorem eqStakeSpot0 (h : Nat → Int) (w : World) :
    Calls Tryd.prog 36 #[.agg (arr 2 (fun k => vStake h (0 + k))), .agg (arr 2 (fun k => vStake h (0 + k)))] w fun e w' => e = .returned (.bool true) ∧ Below w.heap.size w w' := by
  rw [spStake0]
  exact eqSpot_same _ _ w

set_option maxRecDepth 100000 in
set_option maxHeartbeats 400000 in
theorem eqStake_same (h : Nat → Int) (w : World) :
    Calls Tryd.prog 23 #[.agg (arr 3 (vStake h)), .agg (arr 3 (vStake h))] w fun e w' => e = .returned (.bool true) ∧ Below w.heap.size w w' := by
  have hM := Mem.nil w
  have e2 : vStake h 2 = .int .i16 (h 2) := rfl
  have tk_b1 : True := trivial; have tk_b2 : True := trivial
  go_enter Tryd.func23, Tryd.ntmps23
  go_wp2_with (first | (have _t := tk_b1; refine wpList_box rfl _ _ rfl _ _ rfl hM ?_; intro b1 W' hb1 hM'; clear hM tk_b1; have hM := hM'; clear hM') | (have _t := tk_b2; refine wpList_box rfl _ _ rfl _ _ rfl hM ?_; intro b2 W' hb2 hM'; clear hM tk_b2; have hM := hM'; clear hM') | (refine wpList_get1 rfl _ _ rfl _ _ rfl hM 1 rfl (cellTab _ rfl) (by omega) _ rfl ?_) | (refine wpList_get1 rfl _ _ rfl _ _ rfl hM 0 rfl (cellTab _ rfl) (by omega) _ rfl ?_) | (refine wpList_get rfl _ _ rfl _ _ rfl hM 1 rfl (rowTab _ _ rfl) (by omega) ?_) | (refine wpList_get rfl _ _ rfl _ _ rfl hM 0 rfl (rowTab _ _ rfl) (by omega) ?_) | (first | (go_at_call 36; refine (eqStakeSpot0 h _).mono ?_; rintro e W' ⟨rfl, hb'⟩; have hM' := hM.call hb'; clear hM hb'; have hM := hM'; clear hM')))
  go_ret
  exact ⟨rfl, hM.below⟩

set_option maxRecDepth 100000 in
set_option maxHeartbeats 1000000 in
/-- eqStakeS of two lists that hold the same. -/
theorem eqStakeS_same (b b' n c c' : Nat) (hs : Nat → Nat → Int) (hn : n ≤ maxLen) (w : World) (hA : At w b (n * 3) (sStake hs)) (hA' : At w b' (n * 3) (sStake hs)) (hne : b ≠ b') :
    Calls Tryd.prog 10 #[.slice (some ⟨b, 0, none⟩) n c, .slice (some ⟨b', 0, none⟩) n c'] w fun e w' => e = .returned (.bool true) ∧ Below w.heap.size w w' := by
  have hM : Mem w [(b, n * 3, sStake hs), (b', n * 3, sStake hs)] w := ((Mem.nil w).old hA (fun i p h => by simp at h)).old hA' (fun i p h => by
    match i, h with
    | 0, h => simp at h; rw [← h]; exact hne
    | _ + 1, h => simp at h)
  unfold maxLen at hn
  clear hA hA'
  go_enter Tryd.func10, Tryd.ntmps10
  go_wp2
  go_loopw [5] (fun i wr => ∃ k : Nat, k ≤ n ∧ i = .int .i64 k ∧ Mem w [(b, n * 3, sStake hs), (b', n * 3, sStake hs)] wr) (fun i _ => n - (intOf i).toNat)
  case atStart => exact ⟨0, by omega, rfl, hM⟩
  case round =>
    clear hM
    obtain ⟨k, hk, rfl, hM⟩ := hrel
    by_cases hlt : k < n
    · have l2 : (k : Int) < n := by omega
      have er : arr 3 (fun j => sStake hs (k * 3 + j)) = arr 3 (vStake (hs k)) := arr_congr fun j hj => sStake_row hs k j hj
      go_wp2
      ((try simp only [Act.put, List.setIfInBounds_toArray, List.set_cons_succ, List.set_cons_zero]); refine wp_region_mem (by kernel_rfl) (by kernel_rfl) hM ?_; clear hM; (repeat (first | go_big_quiet_skip | (go_big_quiet_want; first | (refine quiet_get _ _ rfl _ _ rfl 1 rfl rowStake (by omega) ?_; (simp only [er]); (simp only [Act.put, List.setIfInBounds_toArray, List.set_cons_succ, List.set_cons_zero]); go_big_quiet_on) | (refine quiet_get _ _ rfl _ _ rfl 0 rfl rowStake (by omega) ?_; (simp only [er]); (simp only [Act.put, List.setIfInBounds_toArray, List.set_cons_succ, List.set_cons_zero]); go_big_quiet_on) | (refine quiet_call ?_; apply Exists.intro; apply Exists.intro; apply Exists.intro; refine ⟨fun W => ?_, fun W hM => ?_, ?_⟩; (go_simp; exact ⟨rfl, rfl⟩); (exact eqStake_same (hs k) W); (simp only [Act.put, List.setIfInBounds_toArray, List.set_cons_succ, List.set_cons_zero]); go_big_quiet_on) | (refine quiet_val ?_; apply Exists.intro; refine ⟨fun W => ?_, ?_⟩; (go_simp; (try simp only [l2, if_true, Bool.false_eq_true, if_false]); rfl); (simp only [Act.put, List.setIfInBounds_toArray, List.set_cons_succ, List.set_cons_zero]); go_big_quiet_on)))); (with_reducible refine wpQuiet_nil ?_); intro W' hM)
      go_wp2
      go_roundw
      case rel => exact ⟨k + 1, by omega, by go_num, hM⟩
      case measure => simp [intOf]; omega
    · obtain rfl : k = n := by omega
      go_wp2
      go_ret
      exact ⟨rfl, hM.below⟩
end Go.Proofs.YtaaphdbaocjecaaDoor

/-
  '==' on rows of integers, rows of such rows, and pastures.
-/
namespace Go.Proofs.YtaaphdbaocjecaaDoor
open Go Go.RowKit
variable {P : Program}

theorem run_part_cell {e : TypeId} {κ : IntKind} (hu : P.underlying e = some (.int κ)) {n i : Nat} {f : Nat → Value} (hi : i < n) (W : World) : (part e (arr n f) i).run P W = .ok (f i) W := by
  have hagg : (isAgg e).run P W = .ok false W := by
    unfold isAgg; rw [Sem.run_bind, run_underlying hu W]; rfl
  simp only [part, Sem.run_bind, hagg, Result.andThen_ok, Bool.false_eq_true, if_false, arr_at hi, Sem.run_pure]
theorem run_part_row {e : TypeId} {m : Nat} (hT : RowT P e m) {n i : Nat} {f : Nat → Value} (hi : i + m ≤ n) (W : World) : (part e (arr n f) i).run P W = .ok (.agg (arr m (fun k => f (i + k)))) W := by
  obtain ⟨⟨d, hu, hd⟩, hm⟩ := hT
  have hagg : (isAgg e).run P W = .ok true W := by
    unfold isAgg; rw [Sem.run_bind, run_underlying hu W]; cases d <;> simp_all [TypeDesc.isRow]
  have hsz : (sizeOf e).run P W = .ok m W := by
    cases hq : P.info? e with
    | none => simp [hq] at hm
    | some i => simp [hq] at hm; simp [sizeOf, typeInfo, hq, hm]
  simp only [part, Sem.run_bind, hagg, Result.andThen_ok, if_true, hsz, Sem.run_pure, arr_extract hi]

theorem run_eqItems_ints (d : Nat) {e : TypeId} {κ : IntKind} (hu : P.underlying e = some (.int κ)) (hc : P.cellsOf e = 1) {n : Nat} (f g : Nat → Value) (a b : Nat → Int)
    (hf : ∀ k, k < n → f k = .int κ (a k)) (hg : ∀ k, k < n → g k = .int κ (b k)) (W : World) : ∀ is : List Nat, (∀ i ∈ is, i < n) →
    (Op.eqItems (d + 1) e (P.cellsOf e) (arr n f) (arr n g) is).run P W = .ok (is.all fun i => a i == b i) W
  | [], _ => by simp [Op.eqItems]
  | i :: is, h => by
    have hi := h i (by simp)
    simp only [Op.eqItems, Sem.run_bind, hc, Nat.mul_one, run_part_cell hu hi, Result.andThen_ok, hf i hi, hg i hi, run_equalIn_int W d e κ κ _ _ hu]
    cases hab : (a i == b i)
    · simp [hab]
    · have := run_eqItems_ints d hu hc f g a b hf hg W is (fun j hj => h j (by simp [hj]))
      rw [hc] at this
      simp [this, hab]

/-- Are the first n the same? -/
def eqTo (n : Nat) (a b : Nat → Int) : Bool := (List.range n).all fun i => a i == b i
theorem eqTo_iff {n : Nat} {a b : Nat → Int} : eqTo n a b = true ↔ ∀ k, k < n → a k = b k := by simp [eqTo]
theorem eqTo_congr {n : Nat} {a b a' b' : Nat → Int} (h : ∀ k, k < n → a k = a' k) (h' : ∀ k, k < n → b k = b' k) : eqTo n a b = eqTo n a' b' := by
  rw [Bool.eq_iff_iff, eqTo_iff, eqTo_iff]
  constructor
  · intro hh k hk; rw [← h k hk, ← h' k hk]; exact hh k hk
  · intro hh k hk; rw [h k hk, h' k hk]; exact hh k hk

theorem run_equalIn_row (d : Nat) {t e : TypeId} {κ : IntKind} {n : Nat} (ht : P.underlying t = some (.array n e)) (hu : P.underlying e = some (.int κ)) (hc : P.cellsOf e = 1) (f g : Nat → Value) (a b : Nat → Int)
    (hf : ∀ k, k < n → f k = .int κ (a k)) (hg : ∀ k, k < n → g k = .int κ (b k)) (W : World) : (Op.equalIn (d + 2) t (.agg (arr n f)) (.agg (arr n g))).run P W = .ok (eqTo n a b) W := by
  obtain ⟨i, hi⟩ := info_of_underlying hu
  rw [run_equalIn_array W (d + 1) _ _ ht hi, run_eqItems_ints d hu hc f g a b hf hg W _ (by simp)]
  rfl

theorem run_eqItems_rows (d : Nat) {t e : TypeId} {κ : IntKind} {m : Nat} (ht : P.underlying t = some (.array m e)) (hT : RowT P t m) (hcm : P.cellsOf t = m) (hu : P.underlying e = some (.int κ)) (hc : P.cellsOf e = 1) {n : Nat} (f g : Nat → Value) (a b : Nat → Int)
    (hf : ∀ k, k < n * m → f k = .int κ (a k)) (hg : ∀ k, k < n * m → g k = .int κ (b k)) (W : World) : ∀ is : List Nat, (∀ i ∈ is, i < n) →
    (Op.eqItems (d + 2) t (P.cellsOf t) (arr (n * m) f) (arr (n * m) g) is).run P W = .ok (is.all fun i => eqTo m (fun k => a (i * m + k)) (fun k => b (i * m + k))) W
  | [], _ => by simp [Op.eqItems]
  | i :: is, h => by
    have hi := h i (by simp)
    have hle : i * m + m ≤ n * m := by
      have := Nat.mul_le_mul_right m (show i + 1 ≤ n by omega)
      rw [Nat.add_mul, Nat.one_mul] at this; exact this
    have hrow := run_equalIn_row d ht hu hc (fun k => f (i * m + k)) (fun k => g (i * m + k)) (fun k => a (i * m + k)) (fun k => b (i * m + k)) (fun k hk => hf _ (by omega)) (fun k hk => hg _ (by omega)) W
    simp only [Op.eqItems, Sem.run_bind, hcm, run_part_row hT hle, Result.andThen_ok, hrow]
    cases hab : eqTo m (fun k => a (i * m + k)) (fun k => b (i * m + k))
    · simp [hab]
    · have := run_eqItems_rows d ht hT hcm hu hc f g a b hf hg W is (fun j hj => h j (by simp [hj]))
      rw [hcm] at this
      simp [this, hab]

theorem all_rows {n m : Nat} (a b : Nat → Int) (hm : 0 < m) : ((List.range n).all fun i => eqTo m (fun k => a (i * m + k)) (fun k => b (i * m + k))) = eqTo (n * m) a b := by
  rw [Bool.eq_iff_iff, eqTo_iff, List.all_eq_true]
  constructor
  · intro h k hk
    have hi : k / m < n := Nat.div_lt_of_lt_mul (by rw [Nat.mul_comm]; exact hk)
    have := (eqTo_iff.1 (h (k / m) (by simpa using hi))) (k % m) (Nat.mod_lt _ hm)
    have e : k / m * m + k % m = k := by rw [Nat.mul_comm]; exact Nat.div_add_mod k m
    rwa [e] at this
  · intro h i hi
    rw [eqTo_iff]
    intro k hk
    apply h
    have hi : i < n := by simpa using hi
    have := Nat.mul_le_mul_right m (show i + 1 ≤ n by omega)
    rw [Nat.add_mul, Nat.one_mul] at this; omega

theorem run_equalIn_rows (d : Nat) {u t e : TypeId} {κ : IntKind} {n m : Nat} (hu' : P.underlying u = some (.array n t)) (ht : P.underlying t = some (.array m e)) (hT : RowT P t m) (hcm : P.cellsOf t = m) (hu : P.underlying e = some (.int κ)) (hc : P.cellsOf e = 1) (hm : 0 < m) (f g : Nat → Value) (a b : Nat → Int)
    (hf : ∀ k, k < n * m → f k = .int κ (a k)) (hg : ∀ k, k < n * m → g k = .int κ (b k)) (W : World) : (Op.equalIn (d + 3) u (.agg (arr (n * m) f)) (.agg (arr (n * m) g))).run P W = .ok (eqTo (n * m) a b) W := by
  obtain ⟨i, hi⟩ := info_of_underlying ht
  rw [run_equalIn_array W (d + 2) _ _ hu' hi, run_eqItems_rows d ht hT hcm hu hc f g a b hf hg W _ (by simp), all_rows a b hm]

theorem cells_i16 : Tryd.prog.cellsOf 24 = 1 := by kernel_rfl
theorem cells_u16 : Tryd.prog.cellsOf 73 = 1 := by kernel_rfl
theorem cells_row : Tryd.prog.cellsOf 71 = 10 := by kernel_rfl

/-- '==' on [10][10]int16. -/
theorem run_equal_grass (f g : Nat → Value) (a b : Nat → Int) (hf : ∀ k, k < 100 → f k = .int .i16 (a k)) (hg : ∀ k, k < 100 → g k = .int .i16 (b k)) (W : World) (d : Nat) :
    (Op.equalIn (d + 3) 72 (.agg (arr 100 f)) (.agg (arr 100 g))).run Tryd.prog W = .ok (eqTo 100 a b) W :=
  run_equalIn_rows (n := 10) (m := 10) d Tryd.underlying72 Tryd.underlying71 (rowTab _ _ rfl) cells_row Tryd.underlying24 cells_i16 (by omega) f g a b hf hg W

/-- '==' on pastures. -/
theorem run_equal_pas (a b : Nat → Int) (W : World) :
    (Op.equalIn 10000 76 (.agg (arr 122 (pas a))) (.agg (arr 122 (pas b)))).run Tryd.prog W = .ok (eqTo 122 a b) W := by
  have hs := run_equalIn_struct (P := Tryd.prog) W 9999 76 (arr 122 (pas a)) (arr 122 (pas b)) (by rw [Program.fieldsOf, Tryd.underlying76]) (by kernel_rfl)
  rw [hs]
  have hf : (Tryd.prog.fieldsOf 76).toList = [
    { name := "Wide", type := 22, offset := 0, embedded := false, tag := "", pkgPath := "", byteOffset := 0 },
    { name := "High", type := 22, offset := 1, embedded := false, tag := "", pkgPath := "", byteOffset := 1 },
    { name := "Grass", type := 72, offset := 2, embedded := false, tag := "", pkgPath := "", byteOffset := 2 },
    { name := "East", type := 74, offset := 102, embedded := false, tag := "", pkgPath := "", byteOffset := 202 },
    { name := "South", type := 74, offset := 112, embedded := false, tag := "", pkgPath := "", byteOffset := 222 }] := by
    rw [Program.fieldsOf, Tryd.underlying76]
  rw [hf]
  have p0 := fun c => run_part_cell (P := Tryd.prog) Tryd.underlying22 (n := 122) (i := 0) (f := pas c) (by omega) W
  have p1 := fun c => run_part_cell (P := Tryd.prog) Tryd.underlying22 (n := 122) (i := 1) (f := pas c) (by omega) W
  have p2 := fun c => run_part_row (P := Tryd.prog) (rowTab 72 100 rfl) (n := 122) (i := 2) (f := pas c) (by omega) W
  have p3 := fun c => run_part_row (P := Tryd.prog) (rowTab 74 10 rfl) (n := 122) (i := 102) (f := pas c) (by omega) W
  have p4 := fun c => run_part_row (P := Tryd.prog) (rowTab 74 10 rfl) (n := 122) (i := 112) (f := pas c) (by omega) W
  have q0 := run_equalIn_int (P := Tryd.prog) W 9998 22 .i8 .i8 (a 0) (b 0) Tryd.underlying22
  have q1 := run_equalIn_int (P := Tryd.prog) W 9998 22 .i8 .i8 (a 1) (b 1) Tryd.underlying22
  have q2 := run_equal_grass (fun k => pas a (2 + k)) (fun k => pas b (2 + k)) (fun k => a (2 + k)) (fun k => b (2 + k)) (fun k hk => pas_i16 a (by omega) (by omega)) (fun k hk => pas_i16 b (by omega) (by omega)) W 9996
  have q3 := run_equalIn_row (P := Tryd.prog) (n := 10) 9997 Tryd.underlying74 Tryd.underlying73 cells_u16 (fun k => pas a (102 + k)) (fun k => pas b (102 + k)) (fun k => a (102 + k)) (fun k => b (102 + k)) (fun k hk => pas_u16 a (by omega)) (fun k hk => pas_u16 b (by omega)) W
  have q4 := run_equalIn_row (P := Tryd.prog) (n := 10) 9997 Tryd.underlying74 Tryd.underlying73 cells_u16 (fun k => pas a (112 + k)) (fun k => pas b (112 + k)) (fun k => a (112 + k)) (fun k => b (112 + k)) (fun k hk => pas_u16 a (by omega)) (fun k hk => pas_u16 b (by omega)) W
  have e0 : ∀ c : Nat → Int, pas c 0 = .int .i8 (c 0) := fun _ => rfl
  have e1 : ∀ c : Nat → Int, pas c 1 = .int .i8 (c 1) := fun _ => rfl
  simp only [Op.eqFields, ne_eq, Sem.run_bind, p0, p1, p2, p3, p4, Result.andThen_ok, e0, e1, q0, q1, q2, q3, q4, Sem.run_pure, Sem.run_ite]
  have key : eqTo 122 a b = ((a 0 == b 0) && (a 1 == b 1) && eqTo 100 (fun k => a (2 + k)) (fun k => b (2 + k)) && eqTo 10 (fun k => a (102 + k)) (fun k => b (102 + k)) && eqTo 10 (fun k => a (112 + k)) (fun k => b (112 + k))) := by
    rw [Bool.eq_iff_iff]
    simp only [Bool.and_eq_true, eqTo_iff, beq_iff_eq]
    constructor
    · intro h
      exact ⟨⟨⟨⟨h 0 (by omega), h 1 (by omega)⟩, fun k hk => h _ (by omega)⟩, fun k hk => h _ (by omega)⟩, fun k hk => h _ (by omega)⟩
    · rintro ⟨⟨⟨⟨h0, h1⟩, h2⟩, h3⟩, h4⟩ k hk
      by_cases k0 : k = 0
      · rw [k0]; exact h0
      by_cases k1 : k = 1
      · rw [k1]; exact h1
      by_cases k2 : k < 102
      · have := h2 (k - 2) (by omega); rwa [show 2 + (k - 2) = k by omega] at this
      by_cases k3 : k < 112
      · have := h3 (k - 102) (by omega); rwa [show 102 + (k - 102) = k by omega] at this
      · have := h4 (k - 112) (by omega); rwa [show 112 + (k - 112) = k by omega] at this
  rw [key]
  cases (a 0 == b 0) <;> cases (a 1 == b 1) <;> cases eqTo 100 (fun k => a (2 + k)) (fun k => b (2 + k)) <;> cases eqTo 10 (fun k => a (102 + k)) (fun k => b (102 + k)) <;> cases eqTo 10 (fun k => a (112 + k)) (fun k => b (112 + k)) <;> simp
end Go.Proofs.YtaaphdbaocjecaaDoor

/-
  '==' on spots.
-/
namespace Go.Proofs.YtaaphdbaocjecaaDoor
open Go Go.RowKit Go.BigFrame

theorem run_equal_spot (x y x' y' : Int) (d : Nat) (W : World) :
    (Op.equalIn (d + 2) 49 (.agg (arr 2 (sp x y))) (.agg (arr 2 (sp x' y')))).run Tryd.prog W = .ok ((x == x') && (y == y')) W := by
  have hs := run_equalIn_struct (P := Tryd.prog) W (d + 1) 49 (arr 2 (sp x y)) (arr 2 (sp x' y')) (by rw [Program.fieldsOf, Tryd.underlying49]) (by kernel_rfl)
  rw [hs]
  have hf : (Tryd.prog.fieldsOf 49).toList = [
    { name := "X", type := 22, offset := 0, embedded := false, tag := "", pkgPath := "", byteOffset := 0 },
    { name := "Y", type := 22, offset := 1, embedded := false, tag := "", pkgPath := "", byteOffset := 1 }] := by
    rw [Program.fieldsOf, Tryd.underlying49]
  rw [hf]
  have p0 := fun c c' => run_part_cell (P := Tryd.prog) Tryd.underlying22 (n := 2) (i := 0) (f := sp c c') (by omega) W
  have p1 := fun c c' => run_part_cell (P := Tryd.prog) Tryd.underlying22 (n := 2) (i := 1) (f := sp c c') (by omega) W
  have q0 := run_equalIn_int (P := Tryd.prog) W d 22 .i8 .i8 x x' Tryd.underlying22
  have q1 := run_equalIn_int (P := Tryd.prog) W d 22 .i8 .i8 y y' Tryd.underlying22
  have e0 : ∀ c c' : Int, sp c c' 0 = .int .i8 c := fun _ _ => rfl
  have e1 : ∀ c c' : Int, sp c c' 1 = .int .i8 c' := fun _ _ => rfl
  simp only [Op.eqFields, ne_eq, Sem.run_bind, p0, p1, Result.andThen_ok, e0, e1, q0, q1, Sem.run_pure, Sem.run_ite]
  cases (x == x') <;> cases (y == y') <;> simp

theorem neq_spot (x y x' y' : Int) (W : World) : (binOp .neq 49 (.agg (arr 2 (sp x y))) (.agg (arr 2 (sp x' y')))).run Tryd.prog W = .ok (.bool (!((x == x') && (y == y')))) W := by
  rw [run_neq_struct, run_equal_spot]; rfl
theorem eql_spot (x y x' y' : Int) (W : World) : (binOp .eql 49 (.agg (arr 2 (sp x y))) (.agg (arr 2 (sp x' y')))).run Tryd.prog W = .ok (.bool ((x == x') && (y == y'))) W := by
  rw [run_eql_struct, run_equal_spot]; rfl
theorem build_spot0 (W : World) : (Instr.build 49 #[]).run Tryd.prog W = .ok (.agg (arr 2 (sp 0 0))) W := by kernel_rfl
end Go.Proofs.YtaaphdbaocjecaaDoor

/-
  '==' on values of the type Stake.
-/
namespace Go.Proofs.YtaaphdbaocjecaaDoor
open Go Go.RowKit Go.BigFrame

theorem run_equal_stake (a b : Nat → Int) (W : World) :
    (Op.equalIn 10000 51 (.agg (arr 3 (vStake a))) (.agg (arr 3 (vStake b)))).run Tryd.prog W = .ok (eqTo 3 a b) W := by
  have hs := run_equalIn_struct (P := Tryd.prog) W 9999 51 (arr 3 (vStake a)) (arr 3 (vStake b)) (by rw [Program.fieldsOf, Tryd.underlying51]) (by kernel_rfl)
  rw [hs]
  have hf : (Tryd.prog.fieldsOf 51).toList = [
    { name := "At", type := 49, offset := 0, embedded := false, tag := "", pkgPath := "", byteOffset := 0 },
    { name := "Reach", type := 24, offset := 2, embedded := false, tag := "", pkgPath := "", byteOffset := 2 }] := by
    rw [Program.fieldsOf, Tryd.underlying51]
  rw [hf]
  have p0 := fun c => (run_part_row (P := Tryd.prog) (rowTab 49 2 rfl) (n := 3) (i := 0) (f := vStake c) (by omega) W).trans (by rw [spStake0])
  have q0 := run_equal_spot (a 0) (a 1) (b 0) (b 1) 9997 W
  have p1 := fun c => run_part_cell (P := Tryd.prog) Tryd.underlying24 (n := 3) (i := 2) (f := vStake c) (by omega) W
  have q1 := run_equalIn_int (P := Tryd.prog) W 9998 24 .i16 .i16 (a 2) (b 2) Tryd.underlying24
  have e1 : ∀ c : Nat → Int, vStake c 2 = .int .i16 (c 2) := fun _ => rfl
  simp only [Op.eqFields, ne_eq, Sem.run_bind, p0, p1, Result.andThen_ok, e1, q0, q1, Sem.run_pure, Sem.run_ite]
  have key : eqTo 3 a b = (((a 0 == b 0) && (a 1 == b 1)) && (a 2 == b 2)) := by
    rw [Bool.eq_iff_iff]
    simp only [Bool.and_eq_true, eqTo_iff, beq_iff_eq]
    constructor
    · intro h
      exact ⟨⟨h 0 (by omega), h 1 (by omega)⟩, h 2 (by omega)⟩
    · rintro ⟨⟨h0, h1⟩, h2⟩ k hk
      rcases (show k = 0 ∨ k = 1 ∨ k = 2 by omega) with rfl | rfl | rfl <;> assumption
  rw [key]
  cases ((a 0 == b 0) && (a 1 == b 1)) <;> cases (a 2 == b 2) <;> simp
theorem neq_stake (a b : Nat → Int) (W : World) : (binOp .neq 51 (.agg (arr 3 (vStake a))) (.agg (arr 3 (vStake b)))).run Tryd.prog W = .ok (.bool (!eqTo 3 a b)) W := by
  rw [run_neq_struct, run_equal_stake]; rfl
end Go.Proofs.YtaaphdbaocjecaaDoor

/-
  (impl.Pasture).hasCell by contract.
-/
namespace Go.Proofs.YtaaphdbaocjecaaDoor
open Go Go.RowKit Go.BigFrame

set_option maxHeartbeats 4000000 in
theorem hasCell_any (g : Nat → Int) (x y : Int) (w : World) :
    Calls Tryd.prog 47 #[.agg (arr 122 (pas g)), .agg (arr 2 (sp x y))] w fun e w' => e = .returned (.bool (isB g x y)) ∧ Below w.heap.size w w' := by
  have hM := Mem.nil w
  have e0 : pas g 0 = .int .i8 (g 0) := rfl
  have e1 : pas g 1 = .int .i8 (g 1) := rfl
  have e2 : sp x y 0 = .int .i8 x := rfl
  have e3 : sp x y 1 = .int .i8 y := rfl
  have tk_b1 : True := trivial; have tk_b2 : True := trivial
  rcases (show x < 0 ∨ (0 ≤ x ∧ g 0 ≤ x) ∨ (0 ≤ x ∧ x < g 0) by omega) with r0 | ⟨r0, r1⟩ | ⟨r0, r1⟩
  · have hf : Hid (isB g x y = false) := Lib.hid (by simp [isB, inB_no (show ¬ (0 ≤ x ∧ x ≤ g 0 - 1) by omega)])
    have d0 : decide (0 ≤ x) = false := decide_eq_false (by omega)
    clear r0
    go_enter Tryd.func47, Tryd.ntmps47
    go_wp2_with (first | (have _t := tk_b1; refine wpList_box rfl _ _ rfl _ _ rfl hM ?_; intro b1 W' hb1 hM'; clear hM tk_b1; have hM := hM'; clear hM') | (have _t := tk_b2; refine wpList_box rfl _ _ rfl _ _ rfl hM ?_; intro b2 W' hb2 hM'; clear hM tk_b2; have hM := hM'; clear hM') | (refine wpList_get1 rfl _ _ rfl _ _ rfl hM 0 rfl (cellTab _ rfl) (by omega) _ rfl ?_) | (refine wpList_get1 rfl _ _ rfl _ _ rfl hM 1 rfl (cellTab _ rfl) (by omega) _ rfl ?_) | (refine wpList_gget1 ?_ _ _ rfl _ _ rfl hM 0 rfl (cellTab _ rfl) (by omega) _ rfl ?_; kernel_rfl) | (refine wpList_gget1 ?_ _ _ rfl _ _ rfl hM 1 rfl (cellTab _ rfl) (by omega) _ rfl ?_; kernel_rfl))
    go_ret
    exact ⟨ret_bool hf.out.symm, hM.below⟩
  · have hf : Hid (isB g x y = false) := Lib.hid (by simp [isB, inB_no (show ¬ (0 ≤ x ∧ x ≤ g 0 - 1) by omega)])
    have d0 : decide (0 ≤ x) = true := decide_eq_true (by omega)
    have d1 : decide (x < g 0) = false := decide_eq_false (by omega)
    clear r0 r1
    go_enter Tryd.func47, Tryd.ntmps47
    go_wp2_with (first | (have _t := tk_b1; refine wpList_box rfl _ _ rfl _ _ rfl hM ?_; intro b1 W' hb1 hM'; clear hM tk_b1; have hM := hM'; clear hM') | (have _t := tk_b2; refine wpList_box rfl _ _ rfl _ _ rfl hM ?_; intro b2 W' hb2 hM'; clear hM tk_b2; have hM := hM'; clear hM') | (refine wpList_get1 rfl _ _ rfl _ _ rfl hM 0 rfl (cellTab _ rfl) (by omega) _ rfl ?_) | (refine wpList_get1 rfl _ _ rfl _ _ rfl hM 1 rfl (cellTab _ rfl) (by omega) _ rfl ?_) | (refine wpList_gget1 ?_ _ _ rfl _ _ rfl hM 0 rfl (cellTab _ rfl) (by omega) _ rfl ?_; kernel_rfl) | (refine wpList_gget1 ?_ _ _ rfl _ _ rfl hM 1 rfl (cellTab _ rfl) (by omega) _ rfl ?_; kernel_rfl))
    go_ret
    exact ⟨ret_bool hf.out.symm, hM.below⟩
  have d0 : decide (0 ≤ x) = true := decide_eq_true (by omega)
  have d1 : decide (x < g 0) = true := decide_eq_true (by omega)
  have q0 := inB_yes (show 0 ≤ x ∧ x ≤ g 0 - 1 by omega)
  clear r0 r1
  rcases (show y < 0 ∨ (0 ≤ y ∧ g 1 ≤ y) ∨ (0 ≤ y ∧ y < g 1) by omega) with r0 | ⟨r0, r1⟩ | ⟨r0, r1⟩
  · have hf : Hid (isB g x y = false) := Lib.hid (by simp [isB, inB_no (show ¬ (0 ≤ y ∧ y ≤ g 1 - 1) by omega)])
    have d2 : decide (0 ≤ y) = false := decide_eq_false (by omega)
    clear r0 q0
    go_enter Tryd.func47, Tryd.ntmps47
    go_wp2_with (first | (have _t := tk_b1; refine wpList_box rfl _ _ rfl _ _ rfl hM ?_; intro b1 W' hb1 hM'; clear hM tk_b1; have hM := hM'; clear hM') | (have _t := tk_b2; refine wpList_box rfl _ _ rfl _ _ rfl hM ?_; intro b2 W' hb2 hM'; clear hM tk_b2; have hM := hM'; clear hM') | (refine wpList_get1 rfl _ _ rfl _ _ rfl hM 0 rfl (cellTab _ rfl) (by omega) _ rfl ?_) | (refine wpList_get1 rfl _ _ rfl _ _ rfl hM 1 rfl (cellTab _ rfl) (by omega) _ rfl ?_) | (refine wpList_gget1 ?_ _ _ rfl _ _ rfl hM 0 rfl (cellTab _ rfl) (by omega) _ rfl ?_; kernel_rfl) | (refine wpList_gget1 ?_ _ _ rfl _ _ rfl hM 1 rfl (cellTab _ rfl) (by omega) _ rfl ?_; kernel_rfl))
    go_ret
    exact ⟨ret_bool hf.out.symm, hM.below⟩
  · have hf : Hid (isB g x y = false) := Lib.hid (by simp [isB, inB_no (show ¬ (0 ≤ y ∧ y ≤ g 1 - 1) by omega)])
    have d2 : decide (0 ≤ y) = true := decide_eq_true (by omega)
    have d3 : decide (y < g 1) = false := decide_eq_false (by omega)
    clear r0 r1 q0
    go_enter Tryd.func47, Tryd.ntmps47
    go_wp2_with (first | (have _t := tk_b1; refine wpList_box rfl _ _ rfl _ _ rfl hM ?_; intro b1 W' hb1 hM'; clear hM tk_b1; have hM := hM'; clear hM') | (have _t := tk_b2; refine wpList_box rfl _ _ rfl _ _ rfl hM ?_; intro b2 W' hb2 hM'; clear hM tk_b2; have hM := hM'; clear hM') | (refine wpList_get1 rfl _ _ rfl _ _ rfl hM 0 rfl (cellTab _ rfl) (by omega) _ rfl ?_) | (refine wpList_get1 rfl _ _ rfl _ _ rfl hM 1 rfl (cellTab _ rfl) (by omega) _ rfl ?_) | (refine wpList_gget1 ?_ _ _ rfl _ _ rfl hM 0 rfl (cellTab _ rfl) (by omega) _ rfl ?_; kernel_rfl) | (refine wpList_gget1 ?_ _ _ rfl _ _ rfl hM 1 rfl (cellTab _ rfl) (by omega) _ rfl ?_; kernel_rfl))
    go_ret
    exact ⟨ret_bool hf.out.symm, hM.below⟩
  · have hf : Hid (isB g x y = true) := Lib.hid (by simp [isB, q0, inB_yes (show 0 ≤ y ∧ y ≤ g 1 - 1 by omega)])
    have d2 : decide (0 ≤ y) = true := decide_eq_true (by omega)
    have d3 : decide (y < g 1) = true := decide_eq_true (by omega)
    clear r0 r1 q0
    go_enter Tryd.func47, Tryd.ntmps47
    go_wp2_with (first | (have _t := tk_b1; refine wpList_box rfl _ _ rfl _ _ rfl hM ?_; intro b1 W' hb1 hM'; clear hM tk_b1; have hM := hM'; clear hM') | (have _t := tk_b2; refine wpList_box rfl _ _ rfl _ _ rfl hM ?_; intro b2 W' hb2 hM'; clear hM tk_b2; have hM := hM'; clear hM') | (refine wpList_get1 rfl _ _ rfl _ _ rfl hM 0 rfl (cellTab _ rfl) (by omega) _ rfl ?_) | (refine wpList_get1 rfl _ _ rfl _ _ rfl hM 1 rfl (cellTab _ rfl) (by omega) _ rfl ?_) | (refine wpList_gget1 ?_ _ _ rfl _ _ rfl hM 0 rfl (cellTab _ rfl) (by omega) _ rfl ?_; kernel_rfl) | (refine wpList_gget1 ?_ _ _ rfl _ _ rfl hM 1 rfl (cellTab _ rfl) (by omega) _ rfl ?_; kernel_rfl))
    go_ret
    exact ⟨ret_bool hf.out.symm, hM.below⟩

theorem sp_of {f : Nat → Value} {x y : Int} (h0 : f 0 = .int .i8 x) (h1 : f 1 = .int .i8 y) : arr 2 f = arr 2 (sp x y) := arr_congr fun k hk => by
  rcases (show k = 0 ∨ k = 1 by omega) with rfl | rfl
  · exact h0
  · exact h1
/-- The same over any two cells that hold the spot. -/
theorem hasCell_of (g : Nat → Int) (f : Nat → Value) (x y : Int) (h0 : f 0 = .int .i8 x) (h1 : f 1 = .int .i8 y) (w : World) :
    Calls Tryd.prog 47 #[.agg (arr 122 (pas g)), .agg (arr 2 f)] w fun e w' => e = .returned (.bool (isB g x y)) ∧ Below w.heap.size w w' := by
  rw [sp_of h0 h1]
  exact hasCell_any g x y w
end Go.Proofs.YtaaphdbaocjecaaDoor

