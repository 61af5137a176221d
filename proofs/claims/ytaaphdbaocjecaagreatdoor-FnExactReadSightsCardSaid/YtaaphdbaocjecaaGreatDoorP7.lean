/-
  Several texts in one: ParseN, Conv, ToSpot, ListK, SightV, StepLit, StepCall, ParseSg, OkS, Greatest, EqSpot, SightQ, HasCell, Cells, OkI1.
-/
import Derived.Test.YtaaphdbaocjecaaGreatDoorP5
import Derived.Test.YtaaphdbaocjecaaGreatDoorP6
import Derived.Test.YtaaphdbaocjecaaGreatDoorP1
import Derived.WalkKit
import Derived.OwnWalk
import Derived.BigQuiet
import Derived.Test.YtaaphdbaocjecaaGreatDoorP2
import Derived.Test.YtaaphdbaocjecaaGreatDoorP4
import Derived.Lib.Hide
import Derived.RangeFuncNested
import Derived.RangeFuncBound
import Derived.RangeFuncCalls
import Derived.RangeFuncLeaves
import Derived.Shelf.Abstract
import Derived.Shelf.RegionOpen
import Derived.OwnWalkIn
import Derived.TacticsInMore
import Derived.LoopNIn
import Derived.LoopIn
/-
  impl.parseNumber, impl.parseSpot by contracts.
-/
namespace Go.Proofs.YtaaphdbaocjecaaGreatDoor
open Go Go.RowKit Go.BigFrame

/-- What the parsing functions read of the world. -/
structure PEnv (a : Nat → Addr) (W : World) : Prop where
  errs : Errs a W
  num : NumE W
  max : MaxP W
theorem PEnv.below {a : Nat → Addr} {W W' : World} (h : PEnv a W) (hb : Below W.heap.size W W') : PEnv a W' := ⟨h.errs.below hb, h.num.below hb, h.max.below hb⟩
theorem pVal_no {B : Nat} {l : List UInt8} (h : pOk B l = false) : pVal B l = 0 := by
  unfold pOk at h
  unfold pVal
  split at h
  · cases h
  · rename_i hn
    cases hq : Lib.parseIntB B l
    · rename_i v; exact absurd hq (hn v)
    · rfl
    · rfl
theorem parse_any (B : Int) (N : Nat) (hB : (B = 8 ∧ N = 8) ∨ (B = 16 ∧ N = 16)) (l : List UInt8) (hl : l.length ≤ 1048576) (w : World) (h : NumE w) :
    Calls Tryz.prog 54 #[.string (bs l), .int .i64 10, .int .i64 B] w fun e w' => (pOk N l = true ∧ e = .returned (.tuple #[.int .i64 (pVal N l), .nilIface]) ∨ pOk N l = false ∧ ∃ x t p, e = .returned (.tuple #[.int .i64 x, .iface t (.pointer p)])) ∧ Below w.heap.size w w' := by
  rcases hB with ⟨rfl, rfl⟩ | ⟨rfl, rfl⟩
  · exact parse8_any l hl w h
  · exact parse16_any l hl w h
set_option maxRecDepth 100000 in
theorem parseNumber_any {a : Nat → Addr} (B : Int) (N : Nat) (hB : (B = 8 ∧ N = 8) ∨ (B = 16 ∧ N = 16)) (l : List UInt8) (hl : l.length ≤ 1048576) (w : World) (hE : PEnv a w) :
    Calls Tryz.prog 40 #[.string (bs l), .int .i64 B] w fun e w' => e = .returned (.tuple #[.int .i64 (pVal N l), evN a (pOk N l)]) ∧ Below w.heap.size w w' := by
  have hM := Mem.nil w
  have HE := Lib.hid hE
  have hP := parse_any B N hB l hl w hE.num
  cases hp : pOk N l
  · have HP := Lib.hid (hP.mono (R' := fun e w' => (∃ x t p, e = .returned (.tuple #[.int .i64 x, .iface t (.pointer p)])) ∧ Below w.heap.size w w') (by
      rintro e w' ⟨h | ⟨-, h⟩, hb⟩
      · rw [hp] at h; cases h.1
      · exact ⟨h, hb⟩))
    have H0 := Lib.hid (pVal_no hp)
    clear hP hE hp
    go_enter Tryz.func40, Tryz.ntmps40
    go_wp2_with (first | (go_at_call 54; refine (HP.out).mono ?_; rintro e W' ⟨⟨x, t, p, rfl⟩, hb'⟩; have hM' := hM.call hb'; clear hM hb'; have hM := hM'; clear hM'))
    ((try simp only [Act.put, List.setIfInBounds_toArray, List.set_cons_succ, List.set_cons_zero]); refine wp_region_mem (by kernel_rfl) (by kernel_rfl) hM ?_; clear hM; (repeat (first | go_big_quiet_skip | (go_big_quiet_want; first | (refine quiet_old _ _ rfl _ _ rfl (cellTab _ rfl) (errV (a 3)) (fun W hM2 => (HE.out.errs.below hM2.below).vars 3 (by omega)) ?_; (simp only [Act.put, List.setIfInBounds_toArray, List.set_cons_succ, List.set_cons_zero]); go_big_quiet_on) | (refine quiet_val ?_; apply Exists.intro; refine ⟨fun W => ?_, ?_⟩; (go_simp; (try simp only [rfl, if_true, Bool.false_eq_true, if_false]); rfl); (simp only [Act.put, List.setIfInBounds_toArray, List.set_cons_succ, List.set_cons_zero]); go_big_quiet_on)))); (with_reducible refine wpQuiet_nil ?_); intro W' hM)
    go_wp2
    refine bodyPost_ret (results_tmp2 rfl _ _ _) rfl ?_
    rw [H0.out]
    exact ⟨rfl, hM.below⟩
  · have HP := Lib.hid (hP.mono (R' := fun e w' => e = .returned (.tuple #[.int .i64 (pVal N l), .nilIface]) ∧ Below w.heap.size w w') (by
      rintro e w' ⟨⟨-, h⟩ | ⟨h, -⟩, hb⟩
      · exact ⟨h, hb⟩
      · rw [hp] at h; cases h))
    clear hP hE hp
    go_enter Tryz.func40, Tryz.ntmps40
    go_wp2_with (first | (go_at_call 54; refine (HP.out).mono ?_; rintro e W' ⟨rfl, hb'⟩; have hM' := hM.call hb'; clear hM hb'; have hM := hM'; clear hM'))
    refine bodyPost_ret (results_tmp2 rfl _ _ _) rfl ?_
    exact ⟨rfl, hM.below⟩

/-- What a word tells of a spot, loosely. -/
def spE (l : List UInt8) : List UInt8 := (Lib.cut l [44]).1
def spS (l : List UInt8) : List UInt8 := (Lib.cut l [44]).2.1
def spOk (l : List UInt8) : Bool := pOk 8 (spE l) && pOk 8 (spS l)
def spX (l : List UInt8) : Int := IntKind.i8.wrap (pVal 8 (spE l))
def spY (l : List UInt8) : Int := IntKind.i8.wrap (pVal 8 (spS l))
theorem run_buildSp (x y : Int) (W : World) : (Instr.build 41 #[(0, .int .i8 x), (1, .int .i8 y)]).run Tryz.prog W = .ok (.agg (arr 2 (sp x y))) W := by kernel_rfl
theorem wpList_buildSp {ops : Array Oper} {rest : List Oper} {o : Oper} {a : Act} {W : World} {Q : Exit → Act → World → Prop} (hgd : o.guard = none) (x y : Operand) (ho : o.op = .build 41 #[(0, x), (1, y)]) (u v : Int) (hx : a.eval x = .int .i8 u) (hy : a.eval y = .int .i8 v)
    (h : wpList Tryz.prog ops Q rest (a.put o.dst (.agg (arr 2 (sp u v)))) W) : wpList Tryz.prog ops Q (o :: rest) a W := by
  refine wpList_plain hgd fun K hK => ?_
  unfold Oper.wp execOp
  have e : (Array.map (fun (z : Nat × Operand) => match z with | (i, x) => (i, a.eval x)) #[(0, x), (1, y)]) = #[(0, .int .i8 u), (1, .int .i8 v)] := by simp [hx, hy]
  simp only [ho, e, Sem.run_bind, Sem.run_pure, run_buildSp, Result.andThen_ok]
  exact hK _ _ h
set_option maxRecDepth 100000 in
set_option maxHeartbeats 2000000 in
theorem parseSpot_any {a : Nat → Addr} (l : List UInt8) (hl : l.length ≤ 1048576) (w : World) (hE : PEnv a w) :
    Calls Tryz.prog 31 #[.string (bs l)] w fun e w' => ∃ v N, e = .returned (.tuple #[.agg (arr 2 (sp (spX l) (spY l))), v]) ∧ EvK a 1 (spOk l) v N ∧ Mem (Base.of w) N w' ∧ ∀ p, p ∈ N → w.heap.size ≤ p.1 := by
  have hM := Mem.nil w
  have HE := Lib.hid hE
  have l1 := cut_len1 l [44]
  have l2 := cut_len2 l [44]
  have HC := Lib.hid (cut_any l 44 hl)
  have HX := Lib.hid (show spX l = IntKind.i8.wrap (pVal 8 (spE l)) from rfl)
  have HY := Lib.hid (show spY l = IntKind.i8.wrap (pVal 8 (spS l)) from rfl)
  have HO := Lib.hid (show spOk l = (pOk 8 (spE l) && pOk 8 (spS l)) from rfl)
  rw [show (Lib.cut l [44]).1 = spE l from rfl] at HC l1
  rw [show (Lib.cut l [44]).2.1 = spS l from rfl] at HC l2
  generalize (Lib.cut l [44]).2.2 = cb at HC
  obtain ⟨u, hu⟩ : ∃ u, spE l = u := ⟨_, rfl⟩
  obtain ⟨v, hv⟩ : ∃ v, spS l = v := ⟨_, rfl⟩
  rw [hu] at HC l1 HX HO
  rw [hv] at HC l2 HY HO
  have HU := Lib.hid (fun (W : World) (h : PEnv a W) => parseNumber_any 8 8 (.inl ⟨rfl, rfl⟩) u (by omega) W h)
  have HV := Lib.hid (fun (W : World) (h : PEnv a W) => parseNumber_any 8 8 (.inl ⟨rfl, rfl⟩) v (by omega) W h)
  rw [HX.out, HY.out, HO.out]
  obtain ⟨e1, he1⟩ : ∃ e1, evN a (pOk 8 u) = e1 := ⟨_, rfl⟩
  obtain ⟨e2, he2⟩ : ∃ e2, evN a (pOk 8 v) = e2 := ⟨_, rfl⟩
  have K1 := Lib.hid (show EvK a 0 (pOk 8 u) e1 [] by rw [← he1]; exact evN_k _ _ _ _)
  have K2 := Lib.hid (show EvK a 0 (pOk 8 v) e2 [] by rw [← he2]; exact evN_k _ _ _ _)
  rw [he1] at HU
  rw [he2] at HV
  generalize pVal 8 u = x at HU ⊢
  generalize pVal 8 v = y at HV ⊢
  generalize pOk 8 u = ou at K1 ⊢
  generalize pOk 8 v = ov at K2 ⊢
  clear he1 he2 HX HY HO hu hv hE
  have tk_b2 : True := trivial; have tk_n1 : True := trivial; have tk_n2 : True := trivial; have tk_l2 : True := trivial; have tk_s2 : True := trivial
  go_enter Tryz.func31, Tryz.ntmps31
  go_wp2_with (first | (have _t := tk_b2; refine wpList_zero rfl _ rfl (zeroTab _ _ _ rfl) hM ?_; intro b2 W' hb2 hM'; clear hM tk_b2; have hM := hM'; clear hM') | (go_at_call 39; refine (HC.out _ (HE.out.max.below hM.below)).mono ?_; rintro e W' ⟨rfl, hb'⟩; have hM' := hM.call hb'; clear hM hb'; have hM := hM'; clear hM') | (have _t := tk_n1; (go_at_call 40; refine (HU.out _ (HE.out.below hM.below)).mono ?_; rintro e W' ⟨rfl, hb'⟩; have hM' := hM.call hb'; clear hM hb'; have hM := hM'; clear hM'); clear tk_n1) | (have _t := tk_n2; (go_at_call 40; refine (HV.out _ (HE.out.below hM.below)).mono ?_; rintro e W' ⟨rfl, hb'⟩; have hM' := hM.call hb'; clear hM hb'; have hM := hM'; clear hM'); clear tk_n2) | (refine wpList_buildSp rfl _ _ rfl _ _ rfl rfl ?_) | (have _t := tk_l2; refine wpList_lit2 rfl _ _ _ _ rfl e1 e2 rfl rfl K1.out.one K2.out.one _ errs_under err_info2 hM ?_; intro bn W' hbn hM'; clear hM tk_l2; have hM := hM'; clear hM') | (go_at_call 41; refine (join2_any 0 ou ov e1 e2 [] bn 2 _ K1.out K2.out (hM.ats 0 _ _ _ rfl)).mono ?_; rintro e W' ⟨ve, N, rfl, hv, hN, hge⟩; have Hv := Lib.hid hv; have Hg := Lib.hid (fun p hp => Nat.le_trans hM.size (hge p hp)); have hM' := hM.back hN hge; simp only [List.cons_append, List.nil_append] at hM'; clear hM hN hge hv; have hM := hM'.drop; clear hM') | (have _t := tk_s2; (refine wpList_lay rfl _ _ _ rfl _ _ rfl _ _ rfl hM 0 rfl (by assumption) (rowTab _ _ rfl) (by omega) ?_ ?_; (first | (intro _ _; rfl) | (intro k _; exact h1 _) | (intro k _; simp only [lay, upd]; (repeat' split) <;> first | exact h1 _ | rfl)); intro W' hM'; clear hM; have hM := hM'; clear hM'; simp only [List.set] at hM); clear tk_s2))
  have hM1 := hM.re 0 rfl (sp (IntKind.i8.wrap x) (IntKind.i8.wrap y)) (fun j hj => by simp [lay, hj])
  simp only [List.set_cons_zero] at hM1
  refine bodyPost_ret (results_at2 rfl _ rfl (hM1.ats 0 _ _ _ rfl) (rowTab _ _ rfl) _ rfl) rfl ?_
  exact ⟨ve, N, rfl, Hv.out.mono (fun p hp => by simpa using hp), hM1.drop, Hg.out⟩
end Go.Proofs.YtaaphdbaocjecaaGreatDoor

/-
  laws.toInt16A10, toInt16A10A10, toUint16A10, toPasture: each hands back what it is handed.
-/
namespace Go.Proofs.YtaaphdbaocjecaaGreatDoor
open Go Go.RowKit Go.BigFrame

end Go.Proofs.YtaaphdbaocjecaaGreatDoor

/-
  laws.toSpot by contract.
-/
namespace Go.Proofs.YtaaphdbaocjecaaGreatDoor
open Go Go.RowKit Go.BigFrame

end Go.Proofs.YtaaphdbaocjecaaGreatDoor

/-
  A spot out of a reading.
-/
namespace Go.Proofs.YtaaphdbaocjecaaGreatDoor
open Go Go.RowKit Go.BigFrame Go.ChangeShapes Go.WideShapes Go.Deep

section
variable {H : Type} {enc : TypeId × Value → H} {w : World} {base : Nat} {spare : Nat → Bool} {held : Bool}
end
end Go.Proofs.YtaaphdbaocjecaaGreatDoor

/-
  Sight: its cells; argument lists; laws.szSightS, toSight, toSightS by contracts.
-/
namespace Go.Proofs.YtaaphdbaocjecaaGreatDoor
open Go Go.RowKit Go.BigFrame Go.ChangeShapes Go.WideShapes Go.Deep

/-- The integer kind of each cell; the cells. -/
def kSight (k : Nat) : IntKind := if k < 1 then .i16 else .i8
def vSight (h : Nat → Int) : Nat → Value := fun k => .int (kSight k) (h k)
def zSight : Nat → Value := fun k => .int (kSight k) 0
theorem rowSight : RowT Tryz.prog 55 3 := ⟨⟨_, Tryz.underlying55, rfl⟩, by kernel_rfl⟩
theorem zeroSight : (Tryz.prog.info? 55).map (·.zero) = some (some (.agg (arr 3 zSight))) := by kernel_rfl
theorem infoSight : (Tryz.prog.info? 55).map (fun i => (i.size, i.zero, i.bytes)) = some (3, some (.agg (arr 3 zSight)), 4) := by kernel_rfl
structure FitsSight (h : Nat → Int) : Prop where
  c0 : (-32768 : Int) ≤ h 0 ∧ h 0 ≤ 32767
  c1 : (-128 : Int) ≤ h 1 ∧ h 1 ≤ 127
  c2 : (-128 : Int) ≤ h 2 ∧ h 2 ≤ 127
def sSight (hs : Nat → Nat → Int) : Nat → Value := fun k => vSight (hs (k / 3)) (k % 3)
theorem sSight_row (hs : Nat → Nat → Int) (k j : Nat) (hj : j < 3) : sSight hs (k * 3 + j) = vSight (hs k) j := by
  unfold sSight
  rw [show (k * 3 + j) / 3 = k by omega, show (k * 3 + j) % 3 = j by omega]
def SightArg (W : World) (v : Value) (n : Nat) (hs : Nat → Nat → Int) : Prop :=
  (n = 0 ∧ v = .slice none 0 0) ∨ ∃ b o c, v = .slice (some ⟨b, o, none⟩) n c ∧ Lies W b o (n * 3) (sSight hs)
theorem SightArg.below {w W : World} {v : Value} {n : Nat} {hs : Nat → Nat → Int} (h : SightArg w v n hs) (hb : Below w.heap.size w W) : SightArg W v n hs := by
  rcases h with h | ⟨b, o, c, e, h⟩
  · exact .inl h
  · exact .inr ⟨b, o, c, e, h.below hb⟩
theorem spSight1 (h : Nat → Int) : arr 2 (fun k => vSight h (1 + k)) = arr 2 (sp (h 1) (h 2)) := arr_congr fun k hk => by
  rcases (show k = 0 ∨ k = 1 by omega) with rfl | rfl <;> rfl
section
variable {H : Type} {enc : TypeId × Value → H} {w : World} {base : Nat} {spare : Nat → Bool} {held : Bool}
end

/-- A new list. -/
def GivenSight (n : Nat) (hs : Nat → Nat → Int) (w : World) (e : Ending) (w' : World) : Prop := ∃ b, e = .returned (.slice (some ⟨b, 0, none⟩) n n) ∧ w.heap.size ≤ b ∧ At w' b (n * 3) (sSight hs) ∧ Below w.heap.size w w'
end Go.Proofs.YtaaphdbaocjecaaGreatDoor

/-
  PLAIN: a read of a block that a drawn region writes; a slice literal of one element in it.
-/
namespace Go.Proofs.YtaaphdbaocjecaaGreatDoor
open Go Go.RowKit Go.BigFrame

section
variable {P : Program} {o : Oper} {a : Act} {w : Base} {L x : Blocks} {K : Act → (World → Prop) → Prop}
/-- A read out of a block that the region writes later. -/
theorem step_getx (ty : TypeId) (y : Operand) (ho : o.op = .load ty y) (b off : Nat) (hx : a.eval y = .pointer (some ⟨b, off, none⟩)) (i : Nat) {n : Nat} {f : Nat → Value} (hi : x[i]? = some (b, n, f)) (hT : CellT P ty) (hle : off < n) (v : Value) (hv : f off = v)
    (h : K (a.put o.dst v) (Mem w (x ++ L))) : stepT P (Mem w L) o a (Mem w (x ++ L)) K := by
  have hil : i < x.length := (List.getElem?_eq_some_iff.1 hi).1
  have hi' : (x ++ L)[i]? = some (b, n, f) := by rw [List.getElem?_append_left hil]; exact hi
  intro W hM
  have hc := (hM.ats i _ _ _ hi').cell hle
  rw [hv] at hc
  refine .inl ⟨_, _, W, .inl ?_, kept_mem w L x, hM, h⟩
  unfold execOp
  simp only [ho, hx, Instr.loadAt, Instr.sureAddr, Sem.run_bind, Sem.run_pure, Result.andThen_ok, run_load_cell hT hc]
theorem step_lit1 (t e : TypeId) (y : Operand) (ho : o.op = .buildSlice t 1 #[(0, y)]) (u : Value) (hx : a.eval y = u) (h0 : u.oneCell' = true) (z : Value)
    (hu : P.underlying t = some (.slice e)) (hz : (P.info? e).map (fun i => (i.size, i.zero)) = some (1, some z))
    (h : ∀ b, w.B ≤ b → K (a.put o.dst (.slice (some ⟨b, 0, none⟩) 1 1)) (Mem w (((b, 1, fun _ => u) :: x) ++ L))) : stepT P (Mem w L) o a (Mem w (x ++ L)) K := by
  obtain ⟨ie, hie, hq⟩ := Option.map_eq_some_iff.1 hz
  simp only [Prod.mk.injEq] at hq
  refine fun W hW => .inl ⟨_, _, _, .inl ?_, kept_mem w L ((W.heap.size, 1, fun _ => u) :: x), hW.alloc e 1 _, h _ hW.size⟩
  have hf : Instr.fill (fun i => some (i * ie.size, ie.size)) ((Array.range (1 * ie.size)).map (z.cells[· % z.cells.size]!)) (Array.map (fun x => match x with | (i, x) => (i, a.eval x)) #[(0, y)]).toList = some (arr 1 fun _ => u) := by
    rw [hq.1]
    rw [show (Array.map (fun x => match x with | (i, x) => (i, a.eval x)) #[(0, y)]).toList = [(0, u)] by simp [hx]]
    rw [fill_cell h0 (off := 0) rfl (by simp), Instr.fill]
    refine congrArg some (arr_ext (by simp) (fun k hk => ?_))
    have : k = 0 := by omega
    subst this
    simp
  unfold execOp
  simp only [ho, Sem.run_bind, run_buildSlice W t e 1 _ (arr 1 fun _ => u) ie z hu hie hq.2 (by rw [hq.1]; omega) (by rw [hq.1]; omega) hf, Result.andThen_ok]
  rfl
end
end Go.Proofs.YtaaphdbaocjecaaGreatDoor

/-
  PLAIN: in a drawn region, a slice literal of two elements; a call that gives blocks of its own, behind those of the region.
-/
namespace Go.Proofs.YtaaphdbaocjecaaGreatDoor
open Go Go.RowKit Go.BigFrame

section
variable {P : Program} {o : Oper} {a : Act} {w : Base} {L x : Blocks} {K : Act → (World → Prop) → Prop}
theorem step_lit2 (t e : TypeId) (y y' : Operand) (ho : o.op = .buildSlice t 2 #[(0, y), (1, y')]) (u v : Value) (hx : a.eval y = u) (hy : a.eval y' = v) (h0 : u.oneCell' = true) (h1 : v.oneCell' = true) (z : Value)
    (hu : P.underlying t = some (.slice e)) (hz : (P.info? e).map (fun i => (i.size, i.zero)) = some (1, some z))
    (h : ∀ b, w.B ≤ b → K (a.put o.dst (.slice (some ⟨b, 0, none⟩) 2 2)) (Mem w (((b, 2, twoV u v) :: x) ++ L))) : stepT P (Mem w L) o a (Mem w (x ++ L)) K := by
  obtain ⟨ie, hie, hq⟩ := Option.map_eq_some_iff.1 hz
  simp only [Prod.mk.injEq] at hq
  refine fun W hW => .inl ⟨_, _, _, .inl ?_, kept_mem w L ((W.heap.size, 2, twoV u v) :: x), hW.alloc e 2 _, h _ hW.size⟩
  have hf : Instr.fill (fun i => some (i * ie.size, ie.size)) ((Array.range (2 * ie.size)).map (z.cells[· % z.cells.size]!)) (Array.map (fun x => match x with | (i, x) => (i, a.eval x)) #[(0, y), (1, y')]).toList = some (arr 2 (twoV u v)) := by
    rw [hq.1]
    rw [show (Array.map (fun x => match x with | (i, x) => (i, a.eval x)) #[(0, y), (1, y')]).toList = [(0, u), (1, v)] by simp [hx, hy]]
    rw [fill_cell h0 (off := 0) rfl (by simp), fill_cell h1 (off := 1) rfl (by simp), Instr.fill]
    refine congrArg some (arr_ext (by simp) (fun k hk => ?_))
    have : k = 0 ∨ k = 1 := by omega
    rcases this with rfl | rfl <;> simp [twoV]
  unfold execOp
  simp only [ho, Sem.run_bind, run_buildSlice W t e 2 _ (arr 2 (twoV u v)) ie z hu hie hq.2 (by rw [hq.1]; omega) (by rw [hq.1]; omega) hf, Result.andThen_ok]
  rfl
theorem step_call_back {β : Type} (vb : β → Value) (Bk : β → Blocks) (good : β → Prop) (h : ∃ fn args, (∀ W, (execOp a.eval o).run P W = .ok (.enter fn args) W) ∧ (∀ W, Mem w (x ++ L) W → Calls P fn args W fun e w' => ∃ y, e = .returned (vb y) ∧ good y ∧ Mem (Base.of W) (Bk y) w' ∧ ∀ p, p ∈ Bk y → W.heap.size ≤ p.1) ∧
    ∀ y, good y → (∀ p, p ∈ Bk y → w.B ≤ p.1) → K (a.put o.dst (vb y)) (Mem w ((x ++ Bk y) ++ L))) : stepT P (Mem w L) o a (Mem w (x ++ L)) K := by
  obtain ⟨fn, args, hr, hc, h⟩ := h
  refine fun W hW => .inr ⟨fn, args, hr W, (hc W hW).mono fun e w' ⟨y, he, hg, hN, hge⟩ => ⟨vb y, _, he, kept_mem w L (x ++ Bk y), ?_, h y hg (fun p hp => Nat.le_trans hW.size (hge p hp))⟩⟩
  refine (hW.back hN hge).shuf ?_
  rw [List.append_assoc, List.append_assoc]
  exact List.perm_append_comm.append_left x
end
end Go.Proofs.YtaaphdbaocjecaaGreatDoor

/-
  impl.parseSight by contract.
-/
namespace Go.Proofs.YtaaphdbaocjecaaGreatDoor
open Go Go.RowKit Go.BigFrame

/-- What a word tells of a sight, loosely. -/
def sgN (l : List UInt8) : List UInt8 := (Lib.cut l [58]).1
def sgP (l : List UInt8) : List UInt8 := (Lib.cut l [58]).2.1
def sgOk (l : List UInt8) : Bool := pOk 16 (sgN l) && spOk (sgP l)
def st3 (x y r : Int) : Nat → Int := fun k => match k with | 0 => x | 1 => y | _ => r
def sgV (l : List UInt8) : Nat → Int := st3 (IntKind.i16.wrap (pVal 16 (sgN l))) (spX (sgP l)) (spY (sgP l))
theorem run_buildSg (d x y : Int) (W : World) : (Instr.build 55 #[(0, .int .i16 d), (1, .agg (arr 2 (sp x y)))]).run Tryz.prog W = .ok (.agg (arr 3 (vSight (st3 d x y)))) W := by kernel_rfl
theorem exec_buildSg {o : Oper} {a : Act} (u v : Operand) (ho : o.op = .build 55 #[(0, u), (1, v)]) (d x y : Int) (hu : a.eval u = .int .i16 d) (hv : a.eval v = .agg (arr 2 (sp x y))) (W : World) : (execOp a.eval o).run Tryz.prog W = .ok (.value (.agg (arr 3 (vSight (st3 d x y))))) W := by
  unfold execOp
  have e : (Array.map (fun (z : Nat × Operand) => match z with | (i, x) => (i, a.eval x)) #[(0, u), (1, v)]) = #[(0, .int .i16 d), (1, .agg (arr 2 (sp x y)))] := by simp [hu, hv]
  simp only [ho, e, Sem.run_bind, Sem.run_pure, run_buildSg, Result.andThen_ok]
set_option maxRecDepth 100000 in
set_option maxHeartbeats 2000000 in
theorem parseSight_any {a : Nat → Addr} (l : List UInt8) (hl : l.length ≤ 1048576) (w : World) (hE : PEnv a w) :
    Calls Tryz.prog 26 #[.string (bs l)] w fun e w' => ∃ v N, e = .returned (.tuple #[.agg (arr 3 (vSight (sgV l))), v]) ∧ EvK a 2 (sgOk l) v N ∧ Mem (Base.of w) N w' ∧ ∀ p, p ∈ N → w.heap.size ≤ p.1 := by
  have hM := Mem.nil w
  have HE := Lib.hid hE
  have l1 := cut_len1 l [58]
  have l2 := cut_len2 l [58]
  have HC := Lib.hid (cut_any l 58 hl)
  have HV0 := Lib.hid (show sgV l = st3 (IntKind.i16.wrap (pVal 16 (sgN l))) (spX (sgP l)) (spY (sgP l)) from rfl)
  have HO := Lib.hid (show sgOk l = (pOk 16 (sgN l) && spOk (sgP l)) from rfl)
  rw [show (Lib.cut l [58]).1 = sgN l from rfl] at HC l1
  rw [show (Lib.cut l [58]).2.1 = sgP l from rfl] at HC l2
  generalize (Lib.cut l [58]).2.2 = cb at HC
  obtain ⟨u, hu⟩ : ∃ u, sgN l = u := ⟨_, rfl⟩
  obtain ⟨v, hv⟩ : ∃ v, sgP l = v := ⟨_, rfl⟩
  rw [hu] at HC l1 HV0 HO
  rw [hv] at HC l2 HV0 HO
  have HU := Lib.hid (fun (W : World) (h : PEnv a W) => parseNumber_any 16 16 (.inr ⟨rfl, rfl⟩) u (by omega) W h)
  have HV := Lib.hid (fun (W : World) (h : PEnv a W) => parseSpot_any v (by omega) W h)
  rw [HV0.out, HO.out]
  obtain ⟨e1, he1⟩ : ∃ e1, evN a (pOk 16 u) = e1 := ⟨_, rfl⟩
  have K1 := Lib.hid (show ∀ K, EvK a 1 (pOk 16 u) e1 K by rw [← he1]; exact fun K => evN_k _ _ _ _)
  rw [he1] at HU
  generalize pVal 16 u = r at HU ⊢
  generalize spX v = x at HV ⊢
  generalize spY v = y at HV ⊢
  generalize spOk v = ou at HV ⊢
  generalize pOk 16 u = ov at K1 ⊢
  clear he1 HV0 HO hu hv hE
  have tk_b2 : True := trivial; have tk_b7 : True := trivial; have tk_n2 : True := trivial; have tk_l2 : True := trivial; have tk_s2 : True := trivial; have tk_s7 : True := trivial
  go_enter Tryz.func26, Tryz.ntmps26
  go_wp2_with (first | (have _t := tk_b2; refine wpList_zero rfl _ rfl zeroSight hM ?_; intro b2 W' hb2 hM'; clear hM tk_b2; have hM := hM'; clear hM') | (go_at_call 39; refine (HC.out _ (HE.out.max.below hM.below)).mono ?_; rintro e W' ⟨rfl, hb'⟩; have hM' := hM.call hb'; clear hM hb'; have hM := hM'; clear hM') | (go_at_call 31; refine (HV.out _ (HE.out.below hM.below)).mono ?_; rintro e W' ⟨e2, N, rfl, hv, hN, hge⟩; have Hv := Lib.hid hv; have Hg := Lib.hid (fun p hp => Nat.le_trans hM.size (hge p hp)); have hM' := hM.back hN hge; simp only [List.cons_append, List.nil_append] at hM'; clear hM hN hge hv; have hM := hM'; clear hM') | (have _t := tk_b7; refine wpList_zero rfl _ rfl (zeroTab _ _ _ rfl) hM ?_; intro b7 W' hb7 hM'; clear hM tk_b7; have hM := hM'; clear hM') | (have _t := tk_s7; (refine wpList_lay rfl _ _ _ rfl _ _ rfl _ _ rfl hM 0 rfl (by assumption) (rowTab _ _ rfl) (by omega) ?_ ?_; (first | (intro _ _; rfl) | (intro k _; exact h1 _) | (intro k _; simp only [lay, upd]; (repeat' split) <;> first | exact h1 _ | rfl)); intro W' hM'; clear hM; have hM := hM'; clear hM'; simp only [List.set] at hM); clear tk_s7) | (have _t := tk_n2; (go_at_call 40; refine (HU.out _ (HE.out.below hM.below)).mono ?_; rintro e W' ⟨rfl, hb'⟩; have hM' := hM.call hb'; clear hM hb'; have hM := hM'; clear hM'); clear tk_n2))
  have hM1 := hM.re 0 rfl (sp x y) (fun j hj => by simp [lay, hj])
  simp only [List.set_cons_zero] at hM1
  clear hM
  have hM := hM1
  clear hM1
  have el : arr 2 (fun j => sp x y (0 + j)) = arr 2 (sp x y) := arr_congr fun j hj => by rw [Nat.zero_add]
  have hM1 := hM.swap
  clear hM
  have hM := hM1
  clear hM1
  refine region_readsX [0, 1, 2, 4, 5, 3] #[true, true, true, true, true, true, false, false, false, false] 4 [(b2, 3, zSight)] (by kernel_rfl) (by kernel_rfl) (by kernel_rfl) hM ?_
  clear hM
  iterate 5 (refine qs_plain rfl rfl ?_; first | (refine b_get _ _ rfl _ _ rfl 0 rfl (rowTab _ 2 rfl) (by omega) ?_; rw [el]; (simp only [Act.put, List.setIfInBounds_toArray, List.set_cons_succ, List.set_cons_zero])) | (refine b_val ?_; apply Exists.intro; refine ⟨fun W => ?_, ?_⟩; (go_simp; (try simp only [rfl, if_true]); rfl); (simp only [Act.put, List.setIfInBounds_toArray, List.set_cons_succ, List.set_cons_zero])))
  refine qs_plain rfl rfl ?_
  refine b_val ⟨.agg (arr 3 (vSight (st3 (IntKind.i16.wrap r) x y))), fun W => ?_, ?_⟩
  · exact exec_buildSg _ _ rfl _ _ _ rfl rfl W
  (simp only [Act.put, List.setIfInBounds_toArray, List.set_cons_succ, List.set_cons_zero])
  with_reducible refine qs_nil ?_
  (refine mix_one (i := 6) (by kernel_rfl) rfl (by kernel_rfl) rfl ?_)
  refine step_lit2 _ _ _ _ rfl e1 e2 rfl rfl ((K1.out []).one) Hv.out.one _ errs_under err_info2 ?_
  intro bn hbn
  (simp only [Act.put, List.setIfInBounds_toArray, List.set_cons_succ, List.set_cons_zero])
  (refine mix_one (i := 7) (by kernel_rfl) rfl (by kernel_rfl) rfl ?_)
  refine step_call_back (β := Value × Blocks) (fun y => y.1) (fun y => y.2) (fun y => EvK a 2 (ov && ou) y.1 (y.2 ++ N)) ?_
  apply Exists.intro; apply Exists.intro
  refine ⟨fun W => ?_, fun W hM => ?_, ?_⟩
  · go_simp; exact ⟨rfl, rfl⟩
  · refine (join2_any 1 ov ou e1 e2 N bn 2 W (K1.out N) Hv.out (hM.ats 0 _ _ _ rfl)).mono ?_
    rintro e w' ⟨v, N2, rfl, h1, h2, h3⟩
    exact ⟨(v, N2), rfl, h1, h2, h3⟩
  rintro ⟨ve, N2⟩ hve hge2
  have Hve := Lib.hid hve
  have Hg2 := Lib.hid hge2
  clear hve hge2
  (simp only [Act.put, List.setIfInBounds_toArray, List.set_cons_succ, List.set_cons_zero])
  (refine mix_one (i := 8) (by kernel_rfl) rfl (by kernel_rfl) rfl ?_)
  refine step_lay _ _ _ rfl _ _ rfl _ _ rfl 1 rfl (by assumption) rowSight (by omega) (fun _ _ => rfl) ?_
  (simp only [Act.put, List.setIfInBounds_toArray, List.set_cons_succ, List.set_cons_zero])
  (refine mix_one (i := 9) (by kernel_rfl) rfl (by kernel_rfl) rfl ?_)
  (refine step_val ?_; apply Exists.intro; refine ⟨fun W => ?_, ?_⟩; (go_simp; rfl); (simp only [Act.put, List.setIfInBounds_toArray, List.set_cons_succ, List.set_cons_zero]))
  (refine mix_end (by kernel_rfl) ?_; intro W' hM; simp only [List.cons_append, List.nil_append] at hM)
  simp only [List.set_cons_succ, List.set_cons_zero, List.cons_append, List.nil_append] at hM
  have hM1 := hM.drop.re 0 rfl (vSight (st3 (IntKind.i16.wrap r) x y)) (fun j hj => by simp [lay, hj])
  simp only [List.set_cons_zero] at hM1
  go_wp2
  refine bodyPost_ret (results_at2 rfl _ rfl (hM1.ats 0 _ _ _ rfl) rowSight _ rfl) rfl ?_
  refine ⟨ve, rfl, N2 ++ N, Hve.out, (hM1.drop.shuf List.perm_middle).drop, fun p1 p2 p3 hp => ?_⟩
  rcases List.mem_append.1 hp with h | h
  · exact Hg2.out _ h
  · exact Hg.out _ h
end Go.Proofs.YtaaphdbaocjecaaGreatDoor

/-
  spec.l01Ok by contract: is a pasture valid?
-/
namespace Go.Proofs.YtaaphdbaocjecaaGreatDoor
open Go Go.RowKit Go.BigFrame

/-- A cell's grass is as it may be. -/
def cellOk (g : Nat → Int) (y x : Nat) : Bool := inB 0 1000 (g (2 + y * 10 + x)) && (decide (g (2 + y * 10 + x) ≤ 0) || isB g x y)
def mask (g : Nat → Int) : Int := IntKind.u16.wrap (IntKind.u16.wrap (2 ^ (g 0).toNat) - 1)
def badE (g : Nat → Int) (k : Nat) : Bool := bits .andNot .u16 (g (102 + k)) (if (k : Int) < g 1 then mask g / 2 else 0) != 0
def badS (g : Nat → Int) (k : Nat) : Bool := bits .andNot .u16 (g (112 + k)) (if (k : Int) < g 1 - 1 then mask g else 0) != 0
def rowOk (g : Nat → Int) (y : Nat) : Bool := (List.range 10).all (cellOk g y) && !badE g y && !badS g y
/-- Is a pasture valid? -/
def okB (g : Nat → Int) : Bool := inB 1 10 (g 0) && inB 1 10 (g 1) && (List.range 10).all (rowOk g)

theorem badE_in {g : Nat → Int} {k : Nat} (h : (k : Int) < g 1) : badE g k = (bits .andNot .u16 (g (102 + k)) (IntKind.u16.wrap (IntKind.u16.wrap (2 ^ (g 0).toNat) - 1) / 2) != 0) := by simp [badE, mask, h]
theorem badE_out {g : Nat → Int} {k : Nat} (h : g 1 ≤ (k : Int)) : badE g k = (bits .andNot .u16 (g (102 + k)) 0 != 0) := by
  have : ¬ (k : Int) < g 1 := by omega
  simp [badE, this]
theorem badS_in {g : Nat → Int} {k : Nat} (h : (k : Int) < g 1 - 1) : badS g k = (bits .andNot .u16 (g (112 + k)) (IntKind.u16.wrap (IntKind.u16.wrap (2 ^ (g 0).toNat) - 1)) != 0) := by simp [badS, mask, h]
theorem badS_out {g : Nat → Int} {k : Nat} (h : g 1 - 1 ≤ (k : Int)) : badS g k = (bits .andNot .u16 (g (112 + k)) 0 != 0) := by
  have : ¬ (k : Int) < g 1 - 1 := by omega
  simp [badS, this]
theorem rowOk_cell {g : Nat → Int} {y x : Nat} (hx : x < 10) (h : cellOk g y x = false) : rowOk g y = false := by
  have : (List.range 10).all (cellOk g y) = false := by rw [List.all_eq_false]; exact ⟨x, by simpa using hx, by rw [h]; decide⟩
  simp [rowOk, this]
theorem rowOk_E {g : Nat → Int} {y : Nat} (h : badE g y = true) : rowOk g y = false := by simp [rowOk, h]
theorem rowOk_S {g : Nat → Int} {y : Nat} (h : badS g y = true) : rowOk g y = false := by simp [rowOk, h]
theorem rowOk_yes {g : Nat → Int} {y : Nat} (hc : ∀ x, x < 10 → cellOk g y x = true) (hE : badE g y = false) (hS : badS g y = false) : rowOk g y = true := by
  have : (List.range 10).all (cellOk g y) = true := by rw [List.all_eq_true]; intro x hx; exact hc x (by simpa using hx)
  simp [rowOk, this, hE, hS]
theorem okB_no {g : Nat → Int} {y : Nat} (hy : y < 10) (h : rowOk g y = false) : okB g = false := by
  have : (List.range 10).all (rowOk g) = false := by rw [List.all_eq_false]; exact ⟨y, by simpa using hy, by rw [h]; decide⟩
  simp [okB, this]
theorem okB_yes {g : Nat → Int} (b0 : inB 1 10 (g 0) = true) (b1 : inB 1 10 (g 1) = true) (h : ∀ y, y < 10 → rowOk g y = true) : okB g = true := by
  have : (List.range 10).all (rowOk g) = true := by rw [List.all_eq_true]; intro x hx; exact h x (by simpa using hx)
  simp [okB, this, b0, b1]

def OkIn (w : World) (g : Nat → Int) (bp k : Nat) (x : Value) (wr : World) : Prop := ∃ j : Nat, j ≤ 10 ∧ x = .int .i8 j ∧ (∀ i, i < j → cellOk g k i = true) ∧ Mem w [(bp, 122, pas g)] wr
theorem OkIn.step {w : World} {g : Nat → Int} {bp k j : Nat} {W : World} (hj : j < 10) (h : ∀ i, i < j → cellOk g k i = true) (hc : cellOk g k j = true) (hM : Mem w [(bp, 122, pas g)] W) : OkIn w g bp k (.int .i8 ((j : Int) + 1)) W :=
  ⟨j + 1, by omega, by go_num, fun i hi => by
    by_cases e : i = j
    · rw [e]; exact hc
    · exact h i (by omega), hM⟩

end Go.Proofs.YtaaphdbaocjecaaGreatDoor

/-
  The greatest pasture, with no grass: how it is built, what it says of cells.
-/
namespace Go.Proofs.YtaaphdbaocjecaaGreatDoor
open Go Go.RowKit Go.BigFrame

def gMost : Nat → Int := fun k => if k < 2 then 10 else 0
theorem run_greatest (W : World) : (Instr.build 74 #[(0, .int .i8 10), (1, .int .i8 10)]).run Tryz.prog W = .ok (.agg (arr 122 (pas gMost))) W := by kernel_rfl
theorem wpList_greatest {ops : Array Oper} {rest : List Oper} {o : Oper} {a : Act} {W : World} {Q : Exit → Act → World → Prop} (hgd : o.guard = none) (x y : Operand) (ho : o.op = .build 74 #[(0, x), (1, y)])
    (hx : a.eval x = .int .i8 10) (hy : a.eval y = .int .i8 10)
    (h : wpList Tryz.prog ops Q rest (a.put o.dst (.agg (arr 122 (pas gMost)))) W) : wpList Tryz.prog ops Q (o :: rest) a W := by
  refine wpList_plain hgd fun K hK => ?_
  have hr := run_greatest W
  unfold Oper.wp execOp
  simp only [ho, List.map_toArray, List.map_cons, List.map_nil, hx, hy, Sem.run_bind, Sem.run_pure, hr, Result.andThen_ok]
  exact hK _ _ h
theorem fits_most : Fits gMost := ⟨by decide, by decide, fun k h1 h2 => by simp [gMost]; split <;> omega, fun k h1 h2 => by simp [gMost]; split <;> omega⟩
theorem okB_most : okB gMost = true := by kernel_rfl
theorem isB_most (x y : Int) : isB gMost x y = (inB 0 9 x && inB 0 9 y) := rfl
end Go.Proofs.YtaaphdbaocjecaaGreatDoor

/-
  laws.eqSpot on what is equal.
-/
namespace Go.Proofs.YtaaphdbaocjecaaGreatDoor
open Go Go.RowKit Go.BigFrame

set_option maxHeartbeats 400000 in
theorem eqSpot_same (x y : Int) (w : World) :
    Calls Tryz.prog 37 #[.agg (arr 2 (sp x y)), .agg (arr 2 (sp x y))] w fun e w' => e = .returned (.bool true) ∧ Below w.heap.size w w' := by
  have hM := Mem.nil w
  have e0 : sp x y 0 = .int .i8 x := rfl
  have e1 : sp x y 1 = .int .i8 y := rfl
  have tk_b1 : True := trivial; have tk_b2 : True := trivial
  go_enter Tryz.func37, Tryz.ntmps37
  go_wp2_with (first | (have _t := tk_b1; refine wpList_box rfl _ _ rfl _ _ rfl hM ?_; intro b1 W' hb1 hM'; clear hM tk_b1; have hM := hM'; clear hM') | (have _t := tk_b2; refine wpList_box rfl _ _ rfl _ _ rfl hM ?_; intro b2 W' hb2 hM'; clear hM tk_b2; have hM := hM'; clear hM') | (refine wpList_get1 rfl _ _ rfl _ _ rfl hM 1 rfl (cellTab _ rfl) (by omega) _ rfl ?_) | (refine wpList_get1 rfl _ _ rfl _ _ rfl hM 0 rfl (cellTab _ rfl) (by omega) _ rfl ?_))
  go_ret
  exact ⟨rfl, hM.below⟩

end Go.Proofs.YtaaphdbaocjecaaGreatDoor

/-
  laws.eqSight, eqSightS on what is equal.
-/
namespace Go.Proofs.YtaaphdbaocjecaaGreatDoor
open Go Go.RowKit Go.BigFrame

theorem eqSightSpot1 (h : Nat → Int) (w : World) :
    Calls Tryz.prog 37 #[.agg (arr 2 (fun k => vSight h (1 + k))), .agg (arr 2 (fun k => vSight h (1 + k)))] w fun e w' => e = .returned (.bool true) ∧ Below w.heap.size w w' := by
  rw [spSight1]
  exact eqSpot_same _ _ w

set_option maxRecDepth 100000 in
set_option maxHeartbeats 400000 in
theorem eqSight_same (h : Nat → Int) (w : World) :
    Calls Tryz.prog 28 #[.agg (arr 3 (vSight h)), .agg (arr 3 (vSight h))] w fun e w' => e = .returned (.bool true) ∧ Below w.heap.size w w' := by
  have hM := Mem.nil w
  have e0 : vSight h 0 = .int .i16 (h 0) := rfl
  have tk_b1 : True := trivial; have tk_b2 : True := trivial
  go_enter Tryz.func28, Tryz.ntmps28
  go_wp2_with (first | (have _t := tk_b1; refine wpList_box rfl _ _ rfl _ _ rfl hM ?_; intro b1 W' hb1 hM'; clear hM tk_b1; have hM := hM'; clear hM') | (have _t := tk_b2; refine wpList_box rfl _ _ rfl _ _ rfl hM ?_; intro b2 W' hb2 hM'; clear hM tk_b2; have hM := hM'; clear hM') | (refine wpList_get1 rfl _ _ rfl _ _ rfl hM 1 rfl (cellTab _ rfl) (by omega) _ rfl ?_) | (refine wpList_get1 rfl _ _ rfl _ _ rfl hM 0 rfl (cellTab _ rfl) (by omega) _ rfl ?_) | (refine wpList_get rfl _ _ rfl _ _ rfl hM 1 rfl (rowTab _ _ rfl) (by omega) ?_) | (refine wpList_get rfl _ _ rfl _ _ rfl hM 0 rfl (rowTab _ _ rfl) (by omega) ?_) | (first | (go_at_call 37; refine (eqSightSpot1 h _).mono ?_; rintro e W' ⟨rfl, hb'⟩; have hM' := hM.call hb'; clear hM hb'; have hM := hM'; clear hM')))
  go_ret
  exact ⟨rfl, hM.below⟩

set_option maxRecDepth 100000 in
set_option maxHeartbeats 1000000 in
/-- eqSightS of two lists that hold the same. -/
theorem eqSightS_same (b b' n c c' : Nat) (hs : Nat → Nat → Int) (hn : n ≤ maxLen) (w : World) (hA : At w b (n * 3) (sSight hs)) (hA' : At w b' (n * 3) (sSight hs)) (hne : b ≠ b') :
    Calls Tryz.prog 12 #[.slice (some ⟨b, 0, none⟩) n c, .slice (some ⟨b', 0, none⟩) n c'] w fun e w' => e = .returned (.bool true) ∧ Below w.heap.size w w' := by
  have hM : Mem w [(b, n * 3, sSight hs), (b', n * 3, sSight hs)] w := ((Mem.nil w).old hA (fun i p h => by simp at h)).old hA' (fun i p h => by
    match i, h with
    | 0, h => simp at h; rw [← h]; exact hne
    | _ + 1, h => simp at h)
  unfold maxLen at hn
  clear hA hA'
  go_enter Tryz.func12, Tryz.ntmps12
  go_wp2
  go_loopw [5] (fun i wr => ∃ k : Nat, k ≤ n ∧ i = .int .i64 k ∧ Mem w [(b, n * 3, sSight hs), (b', n * 3, sSight hs)] wr) (fun i _ => n - (intOf i).toNat)
  case atStart => exact ⟨0, by omega, rfl, hM⟩
  case round =>
    clear hM
    obtain ⟨k, hk, rfl, hM⟩ := hrel
    by_cases hlt : k < n
    · have l2 : (k : Int) < n := by omega
      have er : arr 3 (fun j => sSight hs (k * 3 + j)) = arr 3 (vSight (hs k)) := arr_congr fun j hj => sSight_row hs k j hj
      go_wp2
      ((try simp only [Act.put, List.setIfInBounds_toArray, List.set_cons_succ, List.set_cons_zero]); refine wp_region_mem (by kernel_rfl) (by kernel_rfl) hM ?_; clear hM; (repeat (first | go_big_quiet_skip | (go_big_quiet_want; first | (refine quiet_get _ _ rfl _ _ rfl 1 rfl rowSight (by omega) ?_; (simp only [er]); (simp only [Act.put, List.setIfInBounds_toArray, List.set_cons_succ, List.set_cons_zero]); go_big_quiet_on) | (refine quiet_get _ _ rfl _ _ rfl 0 rfl rowSight (by omega) ?_; (simp only [er]); (simp only [Act.put, List.setIfInBounds_toArray, List.set_cons_succ, List.set_cons_zero]); go_big_quiet_on) | (refine quiet_call ?_; apply Exists.intro; apply Exists.intro; apply Exists.intro; refine ⟨fun W => ?_, fun W hM => ?_, ?_⟩; (go_simp; exact ⟨rfl, rfl⟩); (exact eqSight_same (hs k) W); (simp only [Act.put, List.setIfInBounds_toArray, List.set_cons_succ, List.set_cons_zero]); go_big_quiet_on) | (refine quiet_val ?_; apply Exists.intro; refine ⟨fun W => ?_, ?_⟩; (go_simp; (try simp only [l2, if_true, Bool.false_eq_true, if_false]); rfl); (simp only [Act.put, List.setIfInBounds_toArray, List.set_cons_succ, List.set_cons_zero]); go_big_quiet_on)))); (with_reducible refine wpQuiet_nil ?_); intro W' hM)
      go_wp2
      go_roundw
      case rel => exact ⟨k + 1, by omega, by go_num, hM⟩
      case measure => simp [intOf]; omega
    · obtain rfl : k = n := by omega
      go_wp2
      go_ret
      exact ⟨rfl, hM.below⟩
end Go.Proofs.YtaaphdbaocjecaaGreatDoor

/-
  (impl.Pasture).hasCell by contract.
-/
namespace Go.Proofs.YtaaphdbaocjecaaGreatDoor
open Go Go.RowKit Go.BigFrame

set_option maxHeartbeats 4000000 in
theorem hasCell_any (g : Nat → Int) (x y : Int) (w : World) :
    Calls Tryz.prog 34 #[.agg (arr 122 (pas g)), .agg (arr 2 (sp x y))] w fun e w' => e = .returned (.bool (isB g x y)) ∧ Below w.heap.size w w' := by
  have hM := Mem.nil w
  have e0 : pas g 0 = .int .i8 (g 0) := rfl
  have e1 : pas g 1 = .int .i8 (g 1) := rfl
  have e2 : sp x y 0 = .int .i8 x := rfl
  have e3 : sp x y 1 = .int .i8 y := rfl
  have tk_b1 : True := trivial; have tk_b2 : True := trivial
  rcases (show x < 0 ∨ (0 ≤ x ∧ g 0 ≤ x) ∨ (0 ≤ x ∧ x < g 0) by omega) with r0 | ⟨r0, r1⟩ | ⟨r0, r1⟩
  · have hf : Hid (isB g x y = false) := Lib.hid (by simp [isB, inB_no (show ¬ (0 ≤ x ∧ x ≤ g 0 - 1) by omega)])
    have d0 : decide (0 ≤ x) = false := decide_eq_false (by omega)
    clear r0
    go_enter Tryz.func34, Tryz.ntmps34
    go_wp2_with (first | (have _t := tk_b1; refine wpList_box rfl _ _ rfl _ _ rfl hM ?_; intro b1 W' hb1 hM'; clear hM tk_b1; have hM := hM'; clear hM') | (have _t := tk_b2; refine wpList_box rfl _ _ rfl _ _ rfl hM ?_; intro b2 W' hb2 hM'; clear hM tk_b2; have hM := hM'; clear hM') | (refine wpList_get1 rfl _ _ rfl _ _ rfl hM 0 rfl (cellTab _ rfl) (by omega) _ rfl ?_) | (refine wpList_get1 rfl _ _ rfl _ _ rfl hM 1 rfl (cellTab _ rfl) (by omega) _ rfl ?_) | (refine wpList_gget1 ?_ _ _ rfl _ _ rfl hM 0 rfl (cellTab _ rfl) (by omega) _ rfl ?_; kernel_rfl) | (refine wpList_gget1 ?_ _ _ rfl _ _ rfl hM 1 rfl (cellTab _ rfl) (by omega) _ rfl ?_; kernel_rfl))
    go_ret
    exact ⟨ret_bool hf.out.symm, hM.below⟩
  · have hf : Hid (isB g x y = false) := Lib.hid (by simp [isB, inB_no (show ¬ (0 ≤ x ∧ x ≤ g 0 - 1) by omega)])
    have d0 : decide (0 ≤ x) = true := decide_eq_true (by omega)
    have d1 : decide (x < g 0) = false := decide_eq_false (by omega)
    clear r0 r1
    go_enter Tryz.func34, Tryz.ntmps34
    go_wp2_with (first | (have _t := tk_b1; refine wpList_box rfl _ _ rfl _ _ rfl hM ?_; intro b1 W' hb1 hM'; clear hM tk_b1; have hM := hM'; clear hM') | (have _t := tk_b2; refine wpList_box rfl _ _ rfl _ _ rfl hM ?_; intro b2 W' hb2 hM'; clear hM tk_b2; have hM := hM'; clear hM') | (refine wpList_get1 rfl _ _ rfl _ _ rfl hM 0 rfl (cellTab _ rfl) (by omega) _ rfl ?_) | (refine wpList_get1 rfl _ _ rfl _ _ rfl hM 1 rfl (cellTab _ rfl) (by omega) _ rfl ?_) | (refine wpList_gget1 ?_ _ _ rfl _ _ rfl hM 0 rfl (cellTab _ rfl) (by omega) _ rfl ?_; kernel_rfl) | (refine wpList_gget1 ?_ _ _ rfl _ _ rfl hM 1 rfl (cellTab _ rfl) (by omega) _ rfl ?_; kernel_rfl))
    go_ret
    exact ⟨ret_bool hf.out.symm, hM.below⟩
  have d0 : decide (0 ≤ x) = true := decide_eq_true (by omega)
  have d1 : decide (x < g 0) = true := decide_eq_true (by omega)
  have q0 := inB_yes (show 0 ≤ x ∧ x ≤ g 0 - 1 by omega)
  clear r0 r1
  rcases (show y < 0 ∨ (0 ≤ y ∧ g 1 ≤ y) ∨ (0 ≤ y ∧ y < g 1) by omega) with r0 | ⟨r0, r1⟩ | ⟨r0, r1⟩
  · have hf : Hid (isB g x y = false) := Lib.hid (by simp [isB, inB_no (show ¬ (0 ≤ y ∧ y ≤ g 1 - 1) by omega)])
    have d2 : decide (0 ≤ y) = false := decide_eq_false (by omega)
    clear r0 q0
    go_enter Tryz.func34, Tryz.ntmps34
    go_wp2_with (first | (have _t := tk_b1; refine wpList_box rfl _ _ rfl _ _ rfl hM ?_; intro b1 W' hb1 hM'; clear hM tk_b1; have hM := hM'; clear hM') | (have _t := tk_b2; refine wpList_box rfl _ _ rfl _ _ rfl hM ?_; intro b2 W' hb2 hM'; clear hM tk_b2; have hM := hM'; clear hM') | (refine wpList_get1 rfl _ _ rfl _ _ rfl hM 0 rfl (cellTab _ rfl) (by omega) _ rfl ?_) | (refine wpList_get1 rfl _ _ rfl _ _ rfl hM 1 rfl (cellTab _ rfl) (by omega) _ rfl ?_) | (refine wpList_gget1 ?_ _ _ rfl _ _ rfl hM 0 rfl (cellTab _ rfl) (by omega) _ rfl ?_; kernel_rfl) | (refine wpList_gget1 ?_ _ _ rfl _ _ rfl hM 1 rfl (cellTab _ rfl) (by omega) _ rfl ?_; kernel_rfl))
    go_ret
    exact ⟨ret_bool hf.out.symm, hM.below⟩
  · have hf : Hid (isB g x y = false) := Lib.hid (by simp [isB, inB_no (show ¬ (0 ≤ y ∧ y ≤ g 1 - 1) by omega)])
    have d2 : decide (0 ≤ y) = true := decide_eq_true (by omega)
    have d3 : decide (y < g 1) = false := decide_eq_false (by omega)
    clear r0 r1 q0
    go_enter Tryz.func34, Tryz.ntmps34
    go_wp2_with (first | (have _t := tk_b1; refine wpList_box rfl _ _ rfl _ _ rfl hM ?_; intro b1 W' hb1 hM'; clear hM tk_b1; have hM := hM'; clear hM') | (have _t := tk_b2; refine wpList_box rfl _ _ rfl _ _ rfl hM ?_; intro b2 W' hb2 hM'; clear hM tk_b2; have hM := hM'; clear hM') | (refine wpList_get1 rfl _ _ rfl _ _ rfl hM 0 rfl (cellTab _ rfl) (by omega) _ rfl ?_) | (refine wpList_get1 rfl _ _ rfl _ _ rfl hM 1 rfl (cellTab _ rfl) (by omega) _ rfl ?_) | (refine wpList_gget1 ?_ _ _ rfl _ _ rfl hM 0 rfl (cellTab _ rfl) (by omega) _ rfl ?_; kernel_rfl) | (refine wpList_gget1 ?_ _ _ rfl _ _ rfl hM 1 rfl (cellTab _ rfl) (by omega) _ rfl ?_; kernel_rfl))
    go_ret
    exact ⟨ret_bool hf.out.symm, hM.below⟩
  · have hf : Hid (isB g x y = true) := Lib.hid (by simp [isB, q0, inB_yes (show 0 ≤ y ∧ y ≤ g 1 - 1 by omega)])
    have d2 : decide (0 ≤ y) = true := decide_eq_true (by omega)
    have d3 : decide (y < g 1) = true := decide_eq_true (by omega)
    clear r0 r1 q0
    go_enter Tryz.func34, Tryz.ntmps34
    go_wp2_with (first | (have _t := tk_b1; refine wpList_box rfl _ _ rfl _ _ rfl hM ?_; intro b1 W' hb1 hM'; clear hM tk_b1; have hM := hM'; clear hM') | (have _t := tk_b2; refine wpList_box rfl _ _ rfl _ _ rfl hM ?_; intro b2 W' hb2 hM'; clear hM tk_b2; have hM := hM'; clear hM') | (refine wpList_get1 rfl _ _ rfl _ _ rfl hM 0 rfl (cellTab _ rfl) (by omega) _ rfl ?_) | (refine wpList_get1 rfl _ _ rfl _ _ rfl hM 1 rfl (cellTab _ rfl) (by omega) _ rfl ?_) | (refine wpList_gget1 ?_ _ _ rfl _ _ rfl hM 0 rfl (cellTab _ rfl) (by omega) _ rfl ?_; kernel_rfl) | (refine wpList_gget1 ?_ _ _ rfl _ _ rfl hM 1 rfl (cellTab _ rfl) (by omega) _ rfl ?_; kernel_rfl))
    go_ret
    exact ⟨ret_bool hf.out.symm, hM.below⟩

theorem sp_of {f : Nat → Value} {x y : Int} (h0 : f 0 = .int .i8 x) (h1 : f 1 = .int .i8 y) : arr 2 f = arr 2 (sp x y) := arr_congr fun k hk => by
  rcases (show k = 0 ∨ k = 1 by omega) with rfl | rfl
  · exact h0
  · exact h1
/-- The same over any two cells that hold the spot. -/
theorem hasCell_of (g : Nat → Int) (f : Nat → Value) (x y : Int) (h0 : f 0 = .int .i8 x) (h1 : f 1 = .int .i8 y) (w : World) :
    Calls Tryz.prog 34 #[.agg (arr 122 (pas g)), .agg (arr 2 f)] w fun e w' => e = .returned (.bool (isB g x y)) ∧ Below w.heap.size w w' := by
  rw [sp_of h0 h1]
  exact hasCell_any g x y w
end Go.Proofs.YtaaphdbaocjecaaGreatDoor

/-
  (impl.Pasture).cells and its iterator, by contract: all cells come in their order, unless a round says 'no more'.
-/
namespace Go.Proofs.YtaaphdbaocjecaaGreatDoor
open Go Go.RowKit Go.Shelf Go.BigFrame
attribute [local go_sem] Oper.semAt_some

/-- A cell of a pasture that is W wide and H high. -/
abbrev Cell (W H : Nat) := { s : Nat × Nat // s.1 < W ∧ s.2 < H }
def encC {W H : Nat} (c : Cell W H) : Array Value := #[.agg (arr 2 (sp c.1.1 c.1.2))]
/-- The i-th cell in their order. -/
def cellAt (W i : Nat) : Nat × Nat := (i % W, i / W)
def upto (W i : Nat) : List (Nat × Nat) := (List.range i).map (cellAt W)
theorem upto_succ (W i : Nat) : upto W (i + 1) = upto W i ++ [cellAt W i] := by simp [upto, List.range_succ]
theorem cellAt_row {W k j : Nat} (h : j < W) : cellAt W (k * W + j) = (j, k) := by
  unfold cellAt
  rw [Nat.mul_comm k W, Nat.mul_add_mod, Nat.mod_eq_of_lt h, Nat.mul_add_div (by omega), Nat.div_eq_of_lt h]; simp

/-- What a round that goes on keeps: the pasture itself. -/
def KpP (bp : Nat) (g : Nat → Int) (A B : World) : Prop := At A bp 122 (pas g) → At B bp 122 (pas g)

def CellsIn {W H : Nat} (J : List (Cell W H) → World → Prop) (bp : Nat) (g : Nat → Int) (i : Nat) (wr : World) : Prop :=
  ∃ pre : List (Cell W H), pre.map (·.1) = upto W i ∧ J pre wr ∧ At wr bp 122 (pas g)
def CellsOut {W H : Nat} (J : List (Cell W H) → World → Prop) (bp : Nat) (g : Nat → Int) (y : Value) (wr : World) : Prop := ∃ k : Nat, k ≤ H ∧ y = .int .i8 k ∧ CellsIn J bp g (k * W) wr
def CellsRow {W H : Nat} (J : List (Cell W H) → World → Prop) (bp : Nat) (g : Nat → Int) (k : Nat) (x : Value) (wr : World) : Prop := ∃ j : Nat, j ≤ W ∧ x = .int .i8 j ∧ CellsIn J bp g (k * W + j) wr

set_option maxHeartbeats 1000000 in
theorem cells1_in (F : Fence) (n : Nat) (hf : F.fn 100) (hro : F.round = none) (hn : 1 ≤ n) (l bp : Nat) (W H : Nat) (hW10 : W ≤ 10) (hH10 : H ≤ 10) (g : Nat → Int) (hg0 : g 0 = W) (hg1 : g 1 = H)
    (J Jx : List (Cell W H) → World → Prop)
    (hY : ∀ pre x W1, J pre W1 → pre.length < W * H → YieldAt F (n - 1) Tryz.prog l (encC x) W1 fun e W' =>
      (e = .returned (.bool true) ∧ J (pre ++ [x]) W' ∧ KpP bp g W1 W') ∨ (e = .returned (.bool false) ∧ Jx (pre ++ [x]) W'))
    (w : World) (hA : At w bp 122 (pas g)) (h0 : J [] w) :
    CallsIn F n Tryz.prog 100 #[.func (.yield l) #[] #[], .pointer (some ⟨bp, 0, none⟩)] w fun e W' => (∃ v, e = .returned v) ∧
      ((∃ xs : List (Cell W H), xs.map (·.1) = upto W (W * H) ∧ J xs W') ∨ (∃ pre : List (Cell W H), (∃ i, i ≤ W * H ∧ pre.map (·.1) = upto W i) ∧ Jx pre W')) := by
  refine callsIn_of_wp Tryz.func100 rfl hf ?_ hro
  simp only [Tryz.ntmps100, List.size_toArray, List.length_cons, List.length_nil, Nat.reduceAdd, Nat.reduceSub, Array.replicate_succ, Array.replicate_zero, List.push_toArray, List.append_toArray, List.nil_append, List.cons_append]
  have c1 : w.cell? ⟨bp, 1, none⟩ = some (.int .i8 (H : Int)) := by rw [← hg1]; exact hA.cell (by omega)
  gi_wp2
  gi_loopw [7] (fun y wr => CellsOut J bp g y wr) (fun y _ => H - (intOf y).toNat)
  case atStart => exact ⟨0, by omega, rfl, [], by simp [upto], h0, hA⟩
  case round =>
    clear c1
    obtain ⟨k, hk, rfl, pre, hpre, hJ, hAr⟩ := hrel
    by_cases hlt : k < H
    · have hkd : decide ((k : Int) < H) = true := decide_eq_true (by omega)
      have c0 : wr.cell? ⟨bp, 0, none⟩ = some (.int .i8 (W : Int)) := by rw [← hg0]; exact hAr.cell (by omega)
      gi_wp2
      gi_loopw [12] (fun x wr => CellsRow J bp g k x wr) (fun x _ => W - (intOf x).toNat)
      case atStart => exact ⟨0, by omega, rfl, pre, hpre, hJ, hAr⟩
      case round =>
        clear c0
        obtain ⟨j, hj, rfl, pre2, hpre2, hJ2, hA2⟩ := hrel
        by_cases hjl : j < W
        · have hjd : decide ((j : Int) < W) = true := decide_eq_true (by omega)
          have hsp : #[Value.int .i8 (j : Int), Value.int .i8 (k : Int)] = arr 2 (sp j k) := rfl
          have hlen : pre2.length = k * W + j := by have := congrArg List.length hpre2; simpa [upto] using this
          have hbd : k * W + j < W * H := by
            have := Nat.mul_le_mul_right W (show k + 1 ≤ H by omega)
            rw [Nat.add_mul, Nat.one_mul, Nat.mul_comm H W] at this; omega
          have hnext : (pre2 ++ [(⟨(j, k), hjl, hlt⟩ : Cell W H)]).map (·.1) = upto W (k * W + j + 1) := by
            rw [List.map_append, hpre2, upto_succ, cellAt_row hjl]; rfl
          obtain ⟨fn, tmps, assign, body, hy, hR⟩ := hY pre2 ⟨(j, k), hjl, hlt⟩ _ hJ2 (by omega)
          dsimp only [encC] at hy
          have Hb := Lib.hid hbd
          have Hn := Lib.hid hnext
          have Hl := Lib.hid hlen
          clear hbd hnext hlen
          gi_wp2
          refine hR.mono ?_
          rintro e W3 (⟨rfl, hJ3, hk3⟩ | ⟨rfl, hJx3⟩)
          · gi_wp2
            go_roundw
            case rel => exact (⟨j + 1, by omega, by go_num, _, Hn.out, hJ3, hk3 hA2⟩ : CellsRow J bp g k _ _)
            case measure => simp [intOf]; omega
          · gi_wp2
            refine bodyPost_ret (results_none rfl _ _ _) rfl ?_
            exact ⟨⟨_, rfl⟩, .inr ⟨_, ⟨_, Hb.out, Hn.out⟩, hJx3⟩⟩
        · obtain rfl : j = W := by omega
          gi_wp2
          go_roundw
          case rel => exact (⟨k + 1, by omega, by go_num, pre2, by rw [hpre2, Nat.add_mul, Nat.one_mul], hJ2, hA2⟩ : CellsOut J bp g _ _)
          case measure => simp [intOf]; omega
    · obtain rfl : k = H := by omega
      gi_wp2
      go_end0
      exact ⟨⟨_, rfl⟩, .inl ⟨pre, by rw [hpre, Nat.mul_comm], hJ⟩⟩

def CellsGiven (g : Nat → Int) (w : World) (e : Ending) (w' : World) : Prop := ∃ b, e = .returned (.func (.func 100) #[] #[.pointer (some ⟨b, 0, none⟩)]) ∧ w.heap.size ≤ b ∧ At w' b 122 (pas g) ∧ Below w.heap.size w w'
theorem cells_any (g : Nat → Int) (w : World) : Calls Tryz.prog 86 #[.agg (arr 122 (pas g))] w (CellsGiven g w) := by
  have hM := Mem.nil w
  have tk_b1 : True := trivial
  go_enter Tryz.func86, Tryz.ntmps86
  go_wp2_with (first | (have _t := tk_b1; refine wpList_box rfl _ _ rfl _ _ rfl hM ?_; intro b1 W' hb1 hM'; clear hM tk_b1; have hM := hM'; clear hM'))
  go_ret
  exact ⟨b1, rfl, hb1, hM.at0, hM.below⟩

theorem cells_stops (F : Fence) (n : Nat) (hf : F.fn 100) (hro : F.round = none) (hn : 1 ≤ n) (bp W H : Nat) (hW10 : W ≤ 10) (hH10 : H ≤ 10) (g : Nat → Int) (hg0 : g 0 = W) (hg1 : g 1 = H) (w : World) (hA : At w bp 122 (pas g)) :
    SeqStopsK F n Tryz.prog 100 #[.pointer (some ⟨bp, 0, none⟩)] (encC (W := W) (H := H)) (KpP bp g) (fun xs => xs.map (·.1) = upto W (W * H)) (fun pre => ∃ i, i ≤ W * H ∧ pre.map (·.1) = upto W i) (W * H) w :=
  fun l J Jx W' hb _ _ hY h0 => cells1_in F n hf hro hn l bp W H hW10 hH10 g hg0 hg1 J Jx hY W' (hA.below hb hA.lt) h0

theorem kpP_t {bp : Nat} {g : Nat → Int} {A B C : World} (h : KpP bp g A B) (k : KpP bp g B C) : KpP bp g A C := fun x => k (h x)
theorem kpP_b {bp : Nat} {g : Nat → Int} (W : World) (l : Nat) (o o' : Obj) (h : W.heap[l]? = some o) (ho : o.isCells = false) : KpP bp g W (W.putObj l o') := fun hA =>
  hA.grown (grownBy_putObj' W l o') (fun r e => by cases e; exact ⟨o, h, ho⟩)
end Go.Proofs.YtaaphdbaocjecaaGreatDoor

/-
  impl.hasValidHurdles by contract.
-/
namespace Go.Proofs.YtaaphdbaocjecaaGreatDoor
open Go Go.RowKit Go.BigFrame

/-- Are bits set only where they may be? -/
def hurB (g : Nat → Int) : Bool := (List.range 10).all fun y => !badE g y && !badS g y
theorem hurB_no {g : Nat → Int} {y : Nat} (hy : y < 10) (h : badE g y = true ∨ badS g y = true) : hurB g = false := by
  unfold hurB; rw [List.all_eq_false]; exact ⟨y, by simpa using hy, by rcases h with h | h <;> simp [h]⟩
theorem hurB_yes {g : Nat → Int} (h : ∀ y, y < 10 → badE g y = false ∧ badS g y = false) : hurB g = true := by
  unfold hurB; rw [List.all_eq_true]; intro y hy; have := h y (by simpa using hy); simp [this.1, this.2]
theorem badE_in' {g : Nat → Int} {k : Nat} (h : (k : Int) < g 1) : badE g k = (bits .andNot .u16 (g (102 + k)) (mask g / 2) != 0) := by simp [badE, h]
theorem badS_in' {g : Nat → Int} {k : Nat} (h : (k : Int) < g 1 - 1) : badS g k = (bits .andNot .u16 (g (112 + k)) (mask g) != 0) := by simp [badS, h]
theorem mask_half {g : Nat → Int} (h : 1 ≤ g 0 ∧ g 0 ≤ 10) : IntKind.u16.wrap (IntKind.u16.wrap (2 ^ ((g 0).toNat - 1)) - 1) = mask g / 2 := by
  unfold mask
  have : g 0 = 1 ∨ g 0 = 2 ∨ g 0 = 3 ∨ g 0 = 4 ∨ g 0 = 5 ∨ g 0 = 6 ∨ g 0 = 7 ∨ g 0 = 8 ∨ g 0 = 9 ∨ g 0 = 10 := by omega
  rcases this with e | e | e | e | e | e | e | e | e | e <;> rw [e] <;> decide
theorem mask_whole (g : Nat → Int) : IntKind.u16.wrap (IntKind.u16.wrap (2 ^ (g 0).toNat) - 1) = mask g := rfl

theorem badE_f {g : Nat → Int} {k : Nat} (h : ((k : Int) < g 1 ∧ bits .andNot .u16 (g (102 + k)) (mask g / 2) = 0) ∨ (g 1 ≤ (k : Int) ∧ bits .andNot .u16 (g (102 + k)) 0 = 0)) : badE g k = false := by
  rcases h with ⟨h, e⟩ | ⟨h, e⟩
  · rw [badE_in' h, e]; rfl
  · rw [badE_out h, e]; rfl
theorem badE_t {g : Nat → Int} {k : Nat} (h : ((k : Int) < g 1 ∧ ¬ bits .andNot .u16 (g (102 + k)) (mask g / 2) = 0) ∨ (g 1 ≤ (k : Int) ∧ ¬ bits .andNot .u16 (g (102 + k)) 0 = 0)) : badE g k = true := by
  rcases h with ⟨h, e⟩ | ⟨h, e⟩
  · rw [badE_in' h]; simpa using e
  · rw [badE_out h]; simpa using e

def HurIn (w : World) (g : Nat → Int) (b1 : Nat) (x : Value) (wr : World) : Prop := ∃ k : Nat, k ≤ 10 ∧ x = .int .i8 k ∧ (∀ i, i < k → badE g i = false ∧ badS g i = false) ∧ Mem w [(b1, 122, pas g)] wr
theorem HurIn.step {w : World} {g : Nat → Int} {b1 k : Nat} {W : World} (hk : k < 10) (h : ∀ i, i < k → badE g i = false ∧ badS g i = false) (hE : badE g k = false) (hS : badS g k = false) (hM : Mem w [(b1, 122, pas g)] W) : HurIn w g b1 (.int .i8 ((k : Int) + 1)) W :=
  ⟨k + 1, by omega, by go_num, fun i hi => by
    by_cases e : i = k
    · rw [e]; exact ⟨hE, hS⟩
    · exact h i (by omega), hM⟩

set_option maxRecDepth 100000 in
set_option maxHeartbeats 2000000 in
theorem hasValidHurdles_any (g : Nat → Int) (hg : Fits g) (h0 : 1 ≤ g 0 ∧ g 0 ≤ 10) (h1 : 1 ≤ g 1 ∧ g 1 ≤ 10) (w : World) :
    Calls Tryz.prog 67 #[.agg (arr 122 (pas g))] w fun e w' => e = .returned (.bool (hurB g)) ∧ Below w.heap.size w w' := by
  have hM := Mem.nil w
  obtain ⟨hw, hh, hgr, hbt⟩ := hg
  have Hbt := Lib.hid hbt
  clear hgr hbt
  have e0 : pas g 0 = .int .i8 (g 0) := rfl
  have e1 : pas g 1 = .int .i8 (g 1) := rfl
  have m1 := mask_half h0
  have m2 := mask_whole g
  have tk_b1 : True := trivial
  go_enter Tryz.func67, Tryz.ntmps67
  go_wp2_with (first | (have _t := tk_b1; refine wpList_box rfl _ _ rfl _ _ rfl hM ?_; intro b1 W' hb1 hM'; clear hM tk_b1; have hM := hM'; clear hM'))
  go_loopw [6] (fun y wr => HurIn w g b1 y wr) (fun y _ => 10 - (intOf y).toNat)
  case atStart => exact ⟨0, by omega, rfl, fun i hi => absurd hi (by omega), hM⟩
  case round =>
    clear hM
    obtain ⟨k, hk, rfl, hrows0, hM⟩ := hrel
    have hrows := Lib.hid hrows0
    clear hrows0
    by_cases hlt : k < 10
    · have hkd : decide ((k : Int) < 10) = true := decide_eq_true (by omega)
      have eE : pas g (102 + k) = .int .u16 (g (102 + k)) := pas_u16 g (by omega)
      have eS : pas g (112 + k) = .int .u16 (g (112 + k)) := pas_u16 g (by omega)
      have hE := Hbt.out (102 + k) (by omega) (by omega)
      have hS := Hbt.out (112 + k) (by omega) (by omega)
      go_wp2_with (first | (refine wpList_get1 rfl _ _ rfl _ _ rfl hM 0 rfl (cellTab _ rfl) (by omega) _ rfl ?_) | (refine wpList_gget1 ?_ _ _ rfl _ _ rfl hM 0 rfl (cellTab _ rfl) (by omega) _ rfl ?_; kernel_rfl))
      all_goals first
        | (go_ret; exact ⟨ret_bool (hurB_no hlt (.inr (by first | (rw [badS_in' (by assumption)]; assumption) | (rw [badS_out (by assumption)]; assumption)))).symm, hM.below⟩)
        | (go_ret; exact ⟨ret_bool (hurB_no hlt (.inl (badE_t (by first | exact .inl ⟨by assumption, by assumption⟩ | exact .inr ⟨by assumption, by assumption⟩)))).symm, hM.below⟩)
        | skip
      all_goals
        have fE : badE g k = false := badE_f (by first | exact .inl ⟨by assumption, by assumption⟩ | exact .inr ⟨by assumption, by assumption⟩)
        have fS : badS g k = false := by first | (rw [badS_in' (by assumption)]; assumption) | (rw [badS_out (by assumption)]; assumption)
        go_roundw
        case rel => first | exact HurIn.step hlt hrows.out fE fS hM | ((repeat apply Exists.intro); exact ⟨HurIn.step hlt hrows.out fE fS hM, rfl⟩)
        case measure => simp [intOf]; omega
    · obtain rfl : k = 10 := by omega
      have hf : Hid (hurB g = true) := Lib.hid (hurB_yes hrows.out)
      go_wp2
      go_ret
      exact ⟨ret_bool hf.out.symm, hM.below⟩
end Go.Proofs.YtaaphdbaocjecaaGreatDoor

