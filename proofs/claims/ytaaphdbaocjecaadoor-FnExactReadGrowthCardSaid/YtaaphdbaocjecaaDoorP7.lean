/-
  Several texts in one: Lit1, SplitS, ReadC, CodeOf, Neq0, Join, IsJoin.
-/
import Derived.Test.YtaaphdbaocjecaaDoorP5
import Derived.Laws.MakeOwn
import Derived.Test.YtaaphdbaocjecaaDoorP6
import Derived.Laws.Strings2
import Derived.Laws.Strings3
import Derived.Test.YtaaphdbaocjecaaDoorP4
import Derived.Shelf.Strconv.ErrVarParseInt
import Derived.Shelf.Strings.SplitShaped
import Derived.Shelf.Strings.Shaped
import Derived.Test.YtaaphdbaocjecaaDoorP3
import Derived.Lib.Hide
/-
  PLAIN LAWS: slice literals of two and of three elements of one cell; make of no element, with room.
-/
namespace Go.Proofs.YtaaphdbaocjecaaDoor
open Go Go.RowKit
variable {P : Program} {ops : Array Oper} {rest : List Oper} {o : Oper} {a : Act} {w : Base} {W : World} {Q : Exit → Act → World → Prop} {L : Blocks}

theorem cells_one {v : Value} (h : v.oneCell' = true) : v.cells = #[v] := by cases v <;> first | rfl | (simp [Value.oneCell'] at h)
theorem fill_cell {place : Nat → Option (Nat × Nat)} {cs : Array Value} {i off : Nat} {v : Value} (hv : v.oneCell' = true) (hp : place i = some (off, 1)) (hle : off < cs.size) (rest : List (Nat × Value)) :
    Instr.fill place cs ((i, v) :: rest) = Instr.fill place (cs.setIfInBounds off v) rest := by
  rw [Instr.fill, hp]
  simp only [cells_one hv, List.size_toArray, List.length_cons, List.length_nil, Nat.zero_add, ne_eq, not_true_eq_false, decide_false, Bool.false_or]
  rw [if_neg (by simp; omega)]
  congr 1
theorem wpList_lit2 (hgd : o.guard = none) (t e : TypeId) (x y : Operand) (ho : o.op = .buildSlice t 2 #[(0, x), (1, y)]) (u v : Value) (hx : a.eval x = u) (hy : a.eval y = v) (h0 : u.oneCell' = true) (h1 : v.oneCell' = true) (z : Value)
    (hu : P.underlying t = some (.slice e)) (hz : (P.info? e).map (fun i => (i.size, i.zero)) = some (1, some z)) (hM : Mem w L W)
    (h : ∀ b W', w.B ≤ b → Mem w ((b, 2, fun k => if k = 0 then u else v) :: L) W' → wpList P ops Q rest (a.put o.dst (.slice (some ⟨b, 0, none⟩) 2 2)) W') : wpList P ops Q (o :: rest) a W := by
  obtain ⟨ie, hie, hq⟩ := Option.map_eq_some_iff.1 hz
  simp only [Prod.mk.injEq] at hq
  refine wpList_buildSlice hgd t e 2 _ ho (arr 2 fun k => if k = 0 then u else v) ie z hu hie hq.2 (by rw [hq.1]; omega) (by rw [hq.1]; omega) ?_ (h _ _ hM.size (hM.alloc e 2 _))
  rw [hq.1]
  rw [show (Array.map (fun x => match x with | (i, x) => (i, a.eval x)) #[(0, x), (1, y)]).toList = [(0, u), (1, v)] by simp [hx, hy]]
  rw [fill_cell h0 (off := 0) rfl (by simp), fill_cell h1 (off := 1) rfl (by simp), Instr.fill]
  refine congrArg some (arr_ext (by simp) (fun k hk => ?_))
  rcases (show k = 0 ∨ k = 1 by omega) with rfl | rfl <;> simp
theorem wpList_lit3 (hgd : o.guard = none) (t e : TypeId) (x y q : Operand) (ho : o.op = .buildSlice t 3 #[(0, x), (1, y), (2, q)]) (u v s : Value) (hx : a.eval x = u) (hy : a.eval y = v) (hs : a.eval q = s) (h0 : u.oneCell' = true) (h1 : v.oneCell' = true) (h2 : s.oneCell' = true) (z : Value)
    (hu : P.underlying t = some (.slice e)) (hz : (P.info? e).map (fun i => (i.size, i.zero)) = some (1, some z)) (hM : Mem w L W)
    (h : ∀ b W', w.B ≤ b → Mem w ((b, 3, fun k => if k = 0 then u else if k = 1 then v else s) :: L) W' → wpList P ops Q rest (a.put o.dst (.slice (some ⟨b, 0, none⟩) 3 3)) W') : wpList P ops Q (o :: rest) a W := by
  obtain ⟨ie, hie, hq⟩ := Option.map_eq_some_iff.1 hz
  simp only [Prod.mk.injEq] at hq
  refine wpList_buildSlice hgd t e 3 _ ho (arr 3 fun k => if k = 0 then u else if k = 1 then v else s) ie z hu hie hq.2 (by rw [hq.1]; omega) (by rw [hq.1]; omega) ?_ (h _ _ hM.size (hM.alloc e 3 _))
  rw [hq.1]
  rw [show (Array.map (fun x => match x with | (i, x) => (i, a.eval x)) #[(0, x), (1, y), (2, q)]).toList = [(0, u), (1, v), (2, s)] by simp [hx, hy, hs]]
  rw [fill_cell h0 (off := 0) rfl (by simp), fill_cell h1 (off := 1) rfl (by simp), fill_cell h2 (off := 2) rfl (by simp), Instr.fill]
  refine congrArg some (arr_ext (by simp) (fun k hk => ?_))
  rcases (show k = 0 ∨ k = 1 ∨ k = 2 by omega) with rfl | rfl | rfl <;> simp
/-- A slice literal of one element of one cell. -/
theorem wpList_lit1 (hgd : o.guard = none) (t e : TypeId) (x : Operand) (ho : o.op = .buildSlice t 1 #[(0, x)]) (u : Value) (hx : a.eval x = u) (h0 : u.oneCell' = true) (z : Value)
    (hu : P.underlying t = some (.slice e)) (hz : (P.info? e).map (fun i => (i.size, i.zero)) = some (1, some z)) (hM : Mem w L W)
    (h : ∀ b W', w.B ≤ b → Mem w ((b, 1, fun _ => u) :: L) W' → wpList P ops Q rest (a.put o.dst (.slice (some ⟨b, 0, none⟩) 1 1)) W') : wpList P ops Q (o :: rest) a W := by
  obtain ⟨ie, hie, hq⟩ := Option.map_eq_some_iff.1 hz
  simp only [Prod.mk.injEq] at hq
  refine wpList_buildSlice hgd t e 1 _ ho (arr 1 fun _ => u) ie z hu hie hq.2 (by rw [hq.1]; omega) (by rw [hq.1]; omega) ?_ (h _ _ hM.size (hM.alloc e 1 _))
  rw [hq.1]
  rw [show (Array.map (fun x => match x with | (i, x) => (i, a.eval x)) #[(0, x)]).toList = [(0, u)] by simp [hx]]
  rw [fill_cell h0 (off := 0) rfl (by simp), Instr.fill]
  refine congrArg some (arr_ext (by simp) (fun k hk => ?_))
  obtain rfl : k = 0 := by omega
  simp

/-- make of no element, with room for n of one cell. -/
theorem wpList_make0 (hgd : o.guard = none) (t e : TypeId) (x y : Operand) (ho : o.op = .makeSlice t x y) (n : Nat) (hx : a.eval x = .int .i64 0) (hy : a.eval y = .int .i64 n) (z : Value) (bs : Nat) (hzc : z.oneCell' = true)
    (hu : P.underlying t = some (.slice e)) (hz : (P.info? e).map (fun i => (i.size, i.zero, i.bytes)) = some (1, some z, bs)) (hbs : bs ≤ 1000) (hn : n ≤ 1048576) (hM : Mem w L W)
    (h : ∀ b W', w.B ≤ b → Mem w ((b, n * 1, fun _ => z) :: L) W' → wpList P ops Q rest (a.put o.dst (.slice (some ⟨b, 0, none⟩) 0 n)) W') : wpList P ops Q (o :: rest) a W := by
  obtain ⟨ie, hie, hq⟩ := Option.map_eq_some_iff.1 hz
  simp only [Prod.mk.injEq] at hq
  obtain ⟨q1, q2, q3⟩ := hq
  refine wpList_plain hgd fun K hK => ?_
  have hb : (ie.bytes : Int) * (n : Int) ≤ 281474976710656 := by
    rw [q3]
    have : bs * n ≤ 1000 * 1048576 := Nat.mul_le_mul hbs hn
    have h2 : ((bs * n : Nat) : Int) ≤ 1000 * 1048576 := by omega
    rw [Int.natCast_mul] at h2
    omega
  have hr := run_make (P := P) W t e ie z hu hie q2 .i64 .i64 0 n (by omega) (by omega) hb (by omega)
  have hc : madeCells z.cells (n * 1) = arr (n * 1) (fun _ => z) := by
    refine arr_ext (by simp [madeCells]) (fun k hk => ?_)
    have hk' : k < n := by omega
    rw [cells_one hzc]
    simp [madeCells, hk', Nat.mod_one]
  simp only [Int.toNat_natCast, q1, hc] at hr
  unfold Oper.wp execOp
  simp only [ho, hx, hy, Sem.run_bind, Sem.run_pure, hr, Result.andThen_ok]
  exact hK _ _ (h _ _ hM.size (hM.alloc e (n * 1) _))
end Go.Proofs.YtaaphdbaocjecaaDoor

/-
  spec.l01Split by contract.
-/
namespace Go.Proofs.YtaaphdbaocjecaaDoor
open Go Go.RowKit Go.BigFrame

theorem wpList_sub {ops : Array Oper} {rest : List Oper} {o : Oper} {a : Act} {W : World} {Q : Exit → Act → World → Prop} (hgd : o.guard = none) (x lo hi : Operand) (ho : o.op = .slice 9 x (some lo) (some hi) none) (l : List UInt8) (hx : a.eval x = .string (bs l)) (i : Nat) (hlo : a.eval lo = .int .i64 i) (j : Nat) (hhi : a.eval hi = .int .i64 j) (h1 : i ≤ j) (h2 : j ≤ l.length)
    (h : wpList Tryd.prog ops Q rest (a.put o.dst (.string (bs (sub l i j)))) W) : wpList Tryd.prog ops Q (o :: rest) a W := by
  refine wpList_plain hgd fun K hK => ?_
  have hr := run_slice_string (P := Tryd.prog) W 9 (bs l) .i64 .i64 (i : Int) (j : Int) Tryd.underlying9 (by omega) (by omega) (by rw [bs_size]; omega)
  rw [Int.toNat_natCast, Int.toNat_natCast, bs_extract] at hr
  have hq2 : (Instr.sliceAt 9 (.string (bs l)) (some (.int .i64 (i : Int))) (some (.int .i64 (j : Int))) none).run Tryd.prog W = .ok (.string (bs (sub l i j))) W := by
    unfold Instr.sliceAt
    simp only [Sem.run_bind, run_underlying Tryd.underlying9, Result.andThen_ok, hr]
  unfold Oper.wp
  simp only [execOp, ho, hx, hlo, hhi, Option.map_some, Option.map_none, Sem.run_bind, Sem.run_pure, hq2, Result.andThen_ok]
  exact hK _ _ h
theorem wpList_subE {ops : Array Oper} {rest : List Oper} {o : Oper} {a : Act} {W : World} {Q : Exit → Act → World → Prop} (hgd : o.guard = none) (x lo : Operand) (ho : o.op = .slice 9 x (some lo) none none) (l : List UInt8) (hx : a.eval x = .string (bs l)) (i : Nat) (hlo : a.eval lo = .int .i64 i) (h1 : i ≤ l.length)
    (h : wpList Tryd.prog ops Q rest (a.put o.dst (.string (bs (sub l i l.length)))) W) : wpList Tryd.prog ops Q (o :: rest) a W := by
  refine wpList_plain hgd fun K hK => ?_
  have hr := run_slice_string_from_if (P := Tryd.prog) W 9 (bs l) .i64 (i : Int) Tryd.underlying9
  rw [if_pos ⟨by omega, by rw [bs_size]; omega⟩, Int.toNat_natCast, bs_extract, bs_size] at hr
  have hq2 : (Instr.sliceAt 9 (.string (bs l)) (some (.int .i64 (i : Int))) none none).run Tryd.prog W = .ok (.string (bs (sub l i l.length))) W := by
    unfold Instr.sliceAt
    simp only [Sem.run_bind, run_underlying Tryd.underlying9, Result.andThen_ok, hr]
  unfold Oper.wp
  simp only [execOp, ho, hx, hlo, Option.map_some, Option.map_none, Sem.run_bind, Sem.run_pure, hq2, Result.andThen_ok]
  exact hK _ _ h
theorem sL_under : Tryd.prog.underlying 36 = some (.slice 9) := Tryd.underlying36
theorem sL_info : (Tryd.prog.info? 9).map (fun i => (i.size, i.zero)) = some (1, some (.string ⟨#[]⟩)) := by kernel_rfl
theorem sL_infoB : (Tryd.prog.info? 9).map (fun i => (i.size, i.zero, i.bytes)) = some (1, some (.string ⟨#[]⟩), 16) := by kernel_rfl
theorem sL_size : (Tryd.prog.info? 9).map (fun i => i.size) = some 1 := by kernel_rfl
/-- The cells of a list of texts. -/
def txF (ps : List (List UInt8)) : Nat → Value := fun k => .string (bs (ps.getD k []))
theorem txF_one {x : ByteArray} : ∀ k, k < 1 → ((fun _ => Value.string x) k : Value).oneCell' = true := fun _ _ => rfl
theorem txF_old {ps : List (List UInt8)} {p : List UInt8} : ∀ j, j < ps.length * 1 → txF ps j = txF (ps ++ [p]) j := fun j hj => by
  unfold txF
  rw [List.getD_eq_getElem?_getD, List.getD_eq_getElem?_getD, List.getElem?_append_left (by omega)]
theorem txF_new {ps : List (List UInt8)} {p : List UInt8} : ∀ j, j < 1 → Value.string (bs p) = txF (ps ++ [p]) (ps.length * 1 + j) := fun j hj => by
  obtain rfl : j = 0 := by omega
  unfold txF
  rw [Nat.mul_one, Nat.add_zero, List.getD_eq_getElem?_getD, List.getElem?_append_right (by omega)]
  simp
set_option maxRecDepth 100000 in
set_option maxHeartbeats 4000000 in
theorem l01Split_any (l : List UInt8) (c : UInt8) (n : Int) (hn : n = c.toNat) (hl : l.length ≤ 1048576) (w : World) :
    Calls Tryd.prog 13 #[.string (bs l), .int .u8 n] w fun e w' => ∃ v, e = .returned v ∧ Lst (Base.of w) [] 1 v (partsC c l).length (txF (partsC c l)) w' := by
  have hM := Mem.nil w
  have hz : (bs l).size = l.length := bs_size l
  have Hn := Lib.hid hn
  clear hn
  have tk_b0 : True := trivial
  go_enter Tryd.func13, Tryd.ntmps13
  go_wp2_with (first | (have _t := tk_b0; refine wpList_slice0 rfl _ _ rfl 1 sL_under sL_size hM ?_; intro b0 W' hb0 hM'; clear hM tk_b0; have hM := hM'; clear hM'))
  go_loopw [5, 6, 7] (fun s b i wr => ∃ (k bg : Nat) (ps : List (List UInt8)), k ≤ l.length ∧ b = .int .i64 bg ∧ i = .int .i64 k ∧ Hid (CutAt c l k ps bg) ∧ ∃ b1 c1 F, s = .slice (some ⟨b1, 0, none⟩) ps.length c1 ∧ (Base.of w).B ≤ b1 ∧ ps.length ≤ c1 ∧ ps.length ≤ k ∧ Hid (∀ j, j < ps.length * 1 → F j = txF ps j) ∧ Mem (Base.of w) [(b1, c1 * 1, F)] wr) (fun _ _ i _ => l.length - (intOf i).toNat)
  case atStart => exact ⟨0, 0, [], by omega, rfl, rfl, Lib.hid (cutAt_zero c l), b0, 0, _, rfl, hb0, Nat.le_refl _, Nat.le_refl _, Lib.hid (fun j hj => absurd hj (by simp)), hM⟩
  case round =>
    clear hM
    obtain ⟨k, bg, ps, hk, rfl, rfl, hc, b1, c1, F, rfl, hbb, hnc, hpk, hFF, hM⟩ := hrel
    have hbk := hc.out.1
    have hle : ps.length ≤ 1048576 := by omega
    by_cases hlt : k < l.length
    · have l2 : (k : Int) < l.length := by omega
      obtain ⟨v, bv⟩ : ∃ v : Int, ((byteL l k : Nat) : Int) = v := ⟨_, rfl⟩
      have hbe := byteL_eq hlt
      by_cases he : v = n
      · have hce : l[k]'hlt = c := UInt8.toNat_inj.1 (by have := Hn.out; omega)
        have Hc := Lib.hid (cutAt_hit hc.out hlt hce)
        have Hold := Lib.hid (fun j hj => (hFF.out j hj).trans (txF_old (p := sub l bg k) j hj))
        have Hnew := Lib.hid (txF_new (ps := ps) (p := sub l bg k))
        have q0 : (v == n) = true := by rw [beq_iff_eq]; exact he
        have q1 : decide (v = n) = true := decide_eq_true he
        have Hlen : (ps ++ [sub l bg k]).length = ps.length + 1 := by simp
        have HL := Lib.hid Hlen
        clear hce hc hbe Hlen he hFF
        have tk_l1 : True := trivial; have tk_p1 : True := trivial
        go_wp2_with (first | (refine wpList_idx rfl _ _ rfl l rfl k hlt rfl _ bv ?_) | (refine wpList_sub rfl _ _ _ rfl l rfl bg rfl k rfl hbk hk ?_) | (have _t := tk_l1; refine wpList_lit1 rfl _ _ _ rfl (.string (bs (sub l bg k))) rfl rfl _ sL_under sL_info hM ?_; intro l1 W' hl1 hM'; clear hM tk_l1; have hM := hM'; clear hM') | (have _t := tk_p1; refine wpList_push1 rfl _ _ _ rfl _ 1 _ _ sL_under sL_infoB rfl (by omega) _ _ _ _ rfl hbb hnc hle _ _ rfl txF_one hM (txF (ps ++ [sub l bg k])) Hold.out Hnew.out ?_; intro bL cL FL W' hbL hcL hFL hM'; clear hM tk_p1; have hM := hM'; clear hM'))
        go_roundw
        case rel => exact ⟨k + 1, k + 1, ps ++ [sub l bg k], by omega, by go_num, by go_num, Hc, bL, cL, FL, by rw [HL.out], hbL, by rw [HL.out]; exact hcL, by rw [HL.out]; omega, Lib.hid (by rw [HL.out]; exact hFL), hM⟩
        case measure => simp [intOf]; omega
      · have hce : l[k]'hlt ≠ c := fun e => he (by have := Hn.out; rw [← e] at this; omega)
        have Hc := Lib.hid (cutAt_on hc.out hlt hce)
        have q0 : (v == n) = false := by rw [beq_eq_false_iff_ne]; exact he
        have q1 : decide (v = n) = false := decide_eq_false he
        clear hce hc hbe he
        go_wp2_with (first | (refine wpList_idx rfl _ _ rfl l rfl k hlt rfl _ bv ?_))
        go_roundw
        case rel => exact ⟨k + 1, bg, ps, by omega, rfl, by go_num, Hc, b1, c1, F, rfl, hbb, hnc, by omega, hFF, hM⟩
        case measure => simp [intOf]; omega
    · obtain rfl : k = l.length := by omega
      have Hend := Lib.hid (cutAt_end hc.out)
      have Hold := Lib.hid (fun j hj => (hFF.out j hj).trans (txF_old (p := sub l bg l.length) j hj))
      have Hnew := Lib.hid (txF_new (ps := ps) (p := sub l bg l.length))
      have HL := Lib.hid (show (ps ++ [sub l bg l.length]).length = ps.length + 1 by simp)
      clear hc hFF
      have tk_l1 : True := trivial; have tk_p1 : True := trivial
      go_wp2_with (first | (refine wpList_subE rfl _ _ rfl l rfl bg rfl hbk ?_) | (have _t := tk_l1; refine wpList_lit1 rfl _ _ _ rfl (.string (bs (sub l bg l.length))) rfl rfl _ sL_under sL_info hM ?_; intro l1 W' hl1 hM'; clear hM tk_l1; have hM := hM'; clear hM') | (have _t := tk_p1; refine wpList_push1 rfl _ _ _ rfl _ 1 _ _ sL_under sL_infoB rfl (by omega) _ _ _ _ rfl hbb hnc hle _ _ rfl txF_one hM (txF (ps ++ [sub l bg l.length])) Hold.out Hnew.out ?_; intro bL cL FL W' hbL hcL hFL hM'; clear hM tk_p1; have hM := hM'; clear hM'))
      go_ret
      refine ⟨_, rfl, ?_⟩
      rw [Hend.out, HL.out]
      exact .inr ⟨bL, cL, FL, rfl, hbL, hcL, hFL, hM⟩
/-- The same: a list that is new. -/
theorem l01Split_new (l : List UInt8) (c : UInt8) (n : Int) (hn : n = c.toNat) (hl : l.length ≤ 1048576) (w : World) :
    Calls Tryd.prog 13 #[.string (bs l), .int .u8 n] w fun e w' => ∃ b c1 F, e = .returned (.slice (some ⟨b, 0, none⟩) (partsC c l).length c1) ∧ w.heap.size ≤ b ∧ (partsC c l).length ≤ c1 ∧ (∀ j, j < (partsC c l).length → F j = txF (partsC c l) j) ∧ At w' b (c1 * 1) F ∧ Below w.heap.size w w' := by
  refine (l01Split_any l c n hn hl w).mono ?_
  rintro e w' ⟨v, rfl, h⟩
  have hpos : 0 < (partsC c l).length := List.length_pos_iff.2 (partsC_ne c l)
  rcases h with ⟨-, h0, -⟩ | ⟨b, c1, F, rfl, hb, hc, hF, hM⟩
  · omega
  · exact ⟨b, c1, F, rfl, hb, hc, fun j hj => hF j (by omega), hM.ats 0 _ _ _ rfl, hM.below⟩
end Go.Proofs.YtaaphdbaocjecaaDoor

/-
  strings.Cut, strings.SplitN, strconv.ParseInt by contracts.
-/
namespace Go.Proofs.YtaaphdbaocjecaaDoor
open Go Go.RowKit Go.BigFrame Go.Shelf

/-- A variable of the library's that Cut and SplitN read holds a number. -/
def MaxP (W : World) : Prop := ∃ m, W.cell? ⟨7, 0, none⟩ = some (.int .i64 m)
theorem MaxP.below {W W' : World} (h : MaxP W) (hb : Below W.heap.size W W') : MaxP W' := by
  obtain ⟨m, h⟩ := h
  exact ⟨m, (hb.cell (show (⟨7, 0, none⟩ : Addr).block < W.heap.size from Lib.lt_of_cell h)).trans h⟩
theorem maxP_of_shape {W : World} (h : W.ShapedOpen Tryd.prog) : MaxP W := Tryd.cutLays.s1_3 W h
theorem var_lt {W : World} {n : String} {g : Nat} {v : Array Value} (hg : Tryd.prog.globalNamed n = some g) (h : W.var? Tryd.prog n = some v) : g < W.heap.size := by
  unfold World.var? at h
  simp only [hg, Option.bind_some] at h
  by_cases hl : g < W.heap.size
  · exact hl
  · rw [Array.getElem?_eq_none (by omega)] at h; cases h
/-- The library's two errors of numbers. -/
def NumE (W : World) : Prop := (∃ tp p, W.var? Tryd.prog "strconv.ErrSyntax" = some #[.iface tp p]) ∧ ∃ tp p, W.var? Tryd.prog "strconv.ErrRange" = some #[.iface tp p]
theorem numE_g1 : Tryd.prog.globalNamed "strconv.ErrSyntax" = some 9 := by kernel_rfl
theorem numE_g2 : Tryd.prog.globalNamed "strconv.ErrRange" = some 10 := by kernel_rfl
theorem NumE.below {W W' : World} (h : NumE W) (hb : Below W.heap.size W W') : NumE W' := by
  obtain ⟨⟨t1, p1, h1⟩, t2, p2, h2⟩ := h
  exact ⟨⟨t1, p1, var?_below hb numE_g1 (var_lt numE_g1 h1) h1⟩, t2, p2, var?_below hb numE_g2 (var_lt numE_g2 h2) h2⟩

theorem cut_any (l : List UInt8) (c : UInt8) (hl : l.length ≤ 1048576) (w : World) (h : MaxP w) :
    Calls Tryd.prog 24 #[.string (bs l), .string (bs [c])] w fun e w' => e = .returned (.tuple #[.string (bs (Lib.cut l [c]).1), .string (bs (Lib.cut l [c]).2.1), .bool (Lib.cut l [c]).2.2]) ∧ Below w.heap.size w w' := by
  obtain ⟨m, h⟩ := h
  refine (Any.strings_Cut { Tryd.cutLays with } (bs l) (bs [c]) m w (by rw [bs_size]; omega) h).mono ?_
  rintro e w' ⟨rfl, n, rfl⟩
  rw [bs_data, bs_data]
  exact ⟨rfl, below_drewN (Below.refl _ _) n⟩
theorem cut_len1 (l s : List UInt8) : (Lib.cut l s).1.length ≤ l.length := by
  unfold Lib.cut
  split
  · simp; omega
  · simp
theorem cut_len2 (l s : List UInt8) : (Lib.cut l s).2.1.length ≤ l.length := by
  unfold Lib.cut
  split
  · simp
  · simp

/-- The words that SplitN gives. -/
def wordsN (c : UInt8) (n : Nat) (l : List UInt8) : List (List UInt8) := Lib.splitK [c] 0 (min n (l.length + 1) - 1) l
theorem wordsN_few {c : UInt8} {n : Nat} {l : List UInt8} (hn : 1 ≤ n) (h : (partsC c l).length ≤ n) : wordsN c n l = partsC c l := by
  have := partsC_len c l
  unfold wordsN
  exact splitK_few c _ l (by omega)
theorem wordsN_many {c : UInt8} {n : Nat} {l : List UInt8} (hn : 1 ≤ n) (h : n < (partsC c l).length) : (wordsN c n l).length = n := by
  have := partsC_len c l
  unfold wordsN
  rw [splitK_many c _ l (by omega)]; omega
theorem wordsN_le {c : UInt8} {n : Nat} {l : List UInt8} (hn : 1 ≤ n) : (wordsN c n l).length ≤ n := by
  by_cases h : (partsC c l).length ≤ n
  · rw [wordsN_few hn h]; exact h
  · rw [wordsN_many hn (by omega)]; exact Nat.le_refl _
theorem cellsOf_at {ws : List ByteArray} {N k : Nat} (hk : k < ws.length) : (Lib.cellsOf ws N)[k]? = some (.string ws[k]) := by
  unfold Lib.cellsOf
  rw [List.getElem?_toArray, List.getElem?_append_left (by simpa using hk)]
  simp [hk]
theorem bs_back (x : ByteArray) : bs x.data.toList = x := by
  cases x
  simp [bs]
theorem splitN_any (l : List UInt8) (c : UInt8) (n : Nat) (hl : l.length ≤ 1048576) (hn : 1 ≤ n) (hn2 : n ≤ 1000) (w : World) (h : MaxP w) :
    Calls Tryd.prog 25 #[.string (bs l), .string (bs [c]), .int .i64 n] w fun e w' => ∃ b N F, e = .returned (.slice (some ⟨b, 0, none⟩) (wordsN c n l).length N) ∧ w.heap.size ≤ b ∧ (wordsN c n l).length ≤ N ∧ (∀ j, j < (wordsN c n l).length → F j = txF (wordsN c n l) j) ∧ At w' b N F ∧ Below w.heap.size w w' := by
  obtain ⟨m, h⟩ := h
  refine (Any.strings_SplitN { Tryd.splLays with } Tryd.splLays.i9 (bs l) (bs [c]) n m w (by rw [bs_size]; omega) h (by rw [bs_size]; simp) hn (by omega)).mono ?_
  rintro e w' ⟨rfl, rfl⟩
  have hd := Lib.splitB_data (bs [c]) 0 (min n ((bs l).size + 1) - 1) (bs l)
  have hk := Lib.splitB_length_le (bs [c]) 0 (min n ((bs l).size + 1) - 1) (bs l)
  rw [bs_size] at hd hk ⊢
  rw [bs_data, bs_data] at hd
  generalize Lib.splitB (bs [c]) 0 (min n (l.length + 1) - 1) (bs l) = ws at hd hk ⊢
  have hw : wordsN c n l = ws.map (·.data.toList) := hd.symm
  have hlen : (wordsN c n l).length = ws.length := by rw [hw]; simp
  have hle : ws.length ≤ min n (l.length + 1) := by omega
  have hM := (Mem.nil w).allocA (Tryd.splLays_ren.t 9) (Lib.cellsOf ws (min n (l.length + 1))) (min n (l.length + 1)) (Lib.cellsOf_size hle)
  refine ⟨w.heap.size, min n (l.length + 1), _, by rw [hlen], Nat.le_refl _, by omega, fun j hj => ?_, hM.ats 0 _ _ _ rfl, hM.below⟩
  rw [hlen] at hj
  show (Lib.cellsOf ws (min n (l.length + 1)))[j]?.getD undef = _
  rw [cellsOf_at hj]
  unfold txF
  rw [hw, List.getD_eq_getElem?_getD]
  simp [hj, bs_back]

/-- What ParseInt reads in base 10 with so many bits. -/
def pOk (B : Nat) (l : List UInt8) : Bool := match Lib.parseIntB B l with | .ok _ => true | _ => false
def pVal (B : Nat) (l : List UInt8) : Int := match Lib.parseIntB B l with | .ok v => v | _ => 0
theorem pOk_of {B : Nat} {l : List UInt8} {v : Int} (h : Lib.parseIntB B l = .ok v) : pOk B l = true ∧ pVal B l = v := by
  unfold pOk pVal; rw [h]; exact ⟨rfl, rfl⟩
theorem parse8_any (l : List UInt8) (hl : l.length ≤ 1048576) (w : World) (h : NumE w) :
    Calls Tryd.prog 39 #[.string (bs l), .int .i64 10, .int .i64 8] w fun e w' => (pOk 8 l = true ∧ e = .returned (.tuple #[.int .i64 (pVal 8 l), .nilIface]) ∨ pOk 8 l = false ∧ ∃ x t p, e = .returned (.tuple #[.int .i64 x, .iface t (.pointer p)])) ∧ Below w.heap.size w w' := by
  obtain ⟨⟨t1, p1, h1⟩, t2, p2, h2⟩ := h
  have ez : (bs l).data.toList = l := bs_data l
  have hz : (bs l).size ≤ 281474976710656 := by rw [bs_size]; omega
  have hz2 : (bs l).size ≤ 9223372036854775806 := by omega
  cases hc : Lib.parseIntB 8 l
  · rename_i v
    refine (Any.strconv_ParseInt_10_at8_ok Tryd.parLays (bs l) hz2 v (by rw [ez]; exact hc) w).mono ?_
    rintro e w' ⟨rfl, hw⟩
    refine ⟨.inl ⟨(pOk_of hc).1, by rw [(pOk_of hc).2]⟩, ?_⟩
    rcases hw with rfl | ⟨t, rfl⟩
    · exact Below.refl _ _
    · exact Lib.bytesWorld_below _ _ _
  · refine (Any.strconv_ParseInt_10_at8_syntax_var Tryd.parLays (bs l) hz (by rw [ez]; exact hc) t1 p1 w h1).mono ?_
    rintro e w' ⟨N, rfl, -, -, hb⟩
    exact ⟨.inr ⟨by unfold pOk; rw [hc], _, _, _, rfl⟩, hb⟩
  · refine (Any.strconv_ParseInt_10_at8_range_var Tryd.parLays (bs l) hz (by rw [ez]; exact hc) t2 p2 w h2).mono ?_
    rintro e w' ⟨N, rfl, -, -, hb⟩
    exact ⟨.inr ⟨by unfold pOk; rw [hc], _, _, _, rfl⟩, hb⟩
theorem parse16_any (l : List UInt8) (hl : l.length ≤ 1048576) (w : World) (h : NumE w) :
    Calls Tryd.prog 39 #[.string (bs l), .int .i64 10, .int .i64 16] w fun e w' => (pOk 16 l = true ∧ e = .returned (.tuple #[.int .i64 (pVal 16 l), .nilIface]) ∨ pOk 16 l = false ∧ ∃ x t p, e = .returned (.tuple #[.int .i64 x, .iface t (.pointer p)])) ∧ Below w.heap.size w w' := by
  obtain ⟨⟨t1, p1, h1⟩, t2, p2, h2⟩ := h
  have ez : (bs l).data.toList = l := bs_data l
  have hz : (bs l).size ≤ 281474976710656 := by rw [bs_size]; omega
  have hz2 : (bs l).size ≤ 9223372036854775806 := by omega
  cases hc : Lib.parseIntB 16 l
  · rename_i v
    refine (Any.strconv_ParseInt_10_at16_ok Tryd.parLays (bs l) hz2 v (by rw [ez]; exact hc) w).mono ?_
    rintro e w' ⟨rfl, hw⟩
    refine ⟨.inl ⟨(pOk_of hc).1, by rw [(pOk_of hc).2]⟩, ?_⟩
    rcases hw with rfl | ⟨t, rfl⟩
    · exact Below.refl _ _
    · exact Lib.bytesWorld_below _ _ _
  · refine (Any.strconv_ParseInt_10_at16_syntax_var Tryd.parLays (bs l) hz (by rw [ez]; exact hc) t1 p1 w h1).mono ?_
    rintro e w' ⟨N, rfl, -, -, hb⟩
    exact ⟨.inr ⟨by unfold pOk; rw [hc], _, _, _, rfl⟩, hb⟩
  · refine (Any.strconv_ParseInt_10_at16_range_var Tryd.parLays (bs l) hz (by rw [ez]; exact hc) t2 p2 w h2).mono ?_
    rintro e w' ⟨N, rfl, -, -, hb⟩
    exact ⟨.inr ⟨by unfold pOk; rw [hc], _, _, _, rfl⟩, hb⟩
end Go.Proofs.YtaaphdbaocjecaaDoor

/-
  impl.codeOf by contract; what checkCells hands back.
-/
namespace Go.Proofs.YtaaphdbaocjecaaDoor
open Go Go.RowKit Go.BigFrame

theorem is_yes {a : Nat → Addr} (i : Nat) (w : World) :
    Calls Tryd.prog 27 #[errV (a i), errV (a i)] w fun e w' => e = .returned (.bool true) ∧ w = w' := (is_same _ w).mono fun _ _ h => ⟨h.1, h.2.symm⟩
theorem is_no {a : Nat → Addr} {w : World} (h : Errs a w) (i j : Nat) (hi : i < 7) (hj : j < 7) (e : i ≠ j) :
    Calls Tryd.prog 27 #[errV (a i), errV (a j)] w fun e w' => e = .returned (.bool false) ∧ w = w' := by
  obtain ⟨ca, ta, ha⟩ := h.cells i hi
  obtain ⟨cb, tb, hb⟩ := h.cells j hj
  exact (is_other _ _ ca cb ta tb w (h.apart i j hi hj e) ha hb).mono fun _ _ h => ⟨h.1, h.2.symm⟩

/-- The code of the k-th error. -/
def codeK (k : Nat) : Int :=
  match k with
  | 0 => 1
  | 1 => 2
  | 2 => 4
  | 3 => 5
  | 4 => 6
  | 5 => 3
  | _ => 7

set_option maxRecDepth 100000 in
set_option maxHeartbeats 4000000 in
theorem codeOf_0 {a : Nat → Addr} {w : World} (h : Errs a w) :
    Calls Tryd.prog 16 #[errV (a 0)] w fun e w' => e = .returned (.int .i64 1) ∧ w = w' := by
  have v0 : w.cell? ⟨1, 0, none⟩ = some (errV (a 0)) := h.vars 0 (by omega)
  have H := Lib.hid h
  clear h
  go_enter Tryd.func16, Tryd.ntmps16
  go_wp2_with (first | (go_at_call 27; (with_reducible refine (is_yes 0 _).mono ?_); rintro e W' ⟨rfl, rfl⟩))
  go_ret
  exact ⟨rfl, rfl⟩
set_option maxRecDepth 100000 in
set_option maxHeartbeats 4000000 in
theorem codeOf_1 {a : Nat → Addr} {w : World} (h : Errs a w) :
    Calls Tryd.prog 16 #[errV (a 1)] w fun e w' => e = .returned (.int .i64 2) ∧ w = w' := by
  have v0 : w.cell? ⟨1, 0, none⟩ = some (errV (a 0)) := h.vars 0 (by omega)
  have v1 : w.cell? ⟨2, 0, none⟩ = some (errV (a 1)) := h.vars 1 (by omega)
  have H := Lib.hid h
  clear h
  go_enter Tryd.func16, Tryd.ntmps16
  go_wp2_with (first | (go_at_call 27; (with_reducible refine (is_no H.out 1 0 (by omega) (by omega) (by omega)).mono ?_); rintro e W' ⟨rfl, rfl⟩) | (go_at_call 27; (with_reducible refine (is_yes 1 _).mono ?_); rintro e W' ⟨rfl, rfl⟩))
  go_ret
  exact ⟨rfl, rfl⟩
set_option maxRecDepth 100000 in
set_option maxHeartbeats 4000000 in
theorem codeOf_2 {a : Nat → Addr} {w : World} (h : Errs a w) :
    Calls Tryd.prog 16 #[errV (a 2)] w fun e w' => e = .returned (.int .i64 4) ∧ w = w' := by
  have v0 : w.cell? ⟨1, 0, none⟩ = some (errV (a 0)) := h.vars 0 (by omega)
  have v1 : w.cell? ⟨2, 0, none⟩ = some (errV (a 1)) := h.vars 1 (by omega)
  have v5 : w.cell? ⟨3, 0, none⟩ = some (errV (a 5)) := h.vars 5 (by omega)
  have v2 : w.cell? ⟨4, 0, none⟩ = some (errV (a 2)) := h.vars 2 (by omega)
  have H := Lib.hid h
  clear h
  go_enter Tryd.func16, Tryd.ntmps16
  go_wp2_with (first | (go_at_call 27; (with_reducible refine (is_no H.out 2 0 (by omega) (by omega) (by omega)).mono ?_); rintro e W' ⟨rfl, rfl⟩) | (go_at_call 27; (with_reducible refine (is_no H.out 2 1 (by omega) (by omega) (by omega)).mono ?_); rintro e W' ⟨rfl, rfl⟩) | (go_at_call 27; (with_reducible refine (is_no H.out 2 5 (by omega) (by omega) (by omega)).mono ?_); rintro e W' ⟨rfl, rfl⟩) | (go_at_call 27; (with_reducible refine (is_yes 2 _).mono ?_); rintro e W' ⟨rfl, rfl⟩))
  go_ret
  exact ⟨rfl, rfl⟩
set_option maxRecDepth 100000 in
set_option maxHeartbeats 4000000 in
theorem codeOf_3 {a : Nat → Addr} {w : World} (h : Errs a w) :
    Calls Tryd.prog 16 #[errV (a 3)] w fun e w' => e = .returned (.int .i64 5) ∧ w = w' := by
  have v0 : w.cell? ⟨1, 0, none⟩ = some (errV (a 0)) := h.vars 0 (by omega)
  have v1 : w.cell? ⟨2, 0, none⟩ = some (errV (a 1)) := h.vars 1 (by omega)
  have v5 : w.cell? ⟨3, 0, none⟩ = some (errV (a 5)) := h.vars 5 (by omega)
  have v2 : w.cell? ⟨4, 0, none⟩ = some (errV (a 2)) := h.vars 2 (by omega)
  have v3 : w.cell? ⟨0, 0, none⟩ = some (errV (a 3)) := h.vars 3 (by omega)
  have H := Lib.hid h
  clear h
  go_enter Tryd.func16, Tryd.ntmps16
  go_wp2_with (first | (go_at_call 27; (with_reducible refine (is_no H.out 3 0 (by omega) (by omega) (by omega)).mono ?_); rintro e W' ⟨rfl, rfl⟩) | (go_at_call 27; (with_reducible refine (is_no H.out 3 1 (by omega) (by omega) (by omega)).mono ?_); rintro e W' ⟨rfl, rfl⟩) | (go_at_call 27; (with_reducible refine (is_no H.out 3 5 (by omega) (by omega) (by omega)).mono ?_); rintro e W' ⟨rfl, rfl⟩) | (go_at_call 27; (with_reducible refine (is_no H.out 3 2 (by omega) (by omega) (by omega)).mono ?_); rintro e W' ⟨rfl, rfl⟩) | (go_at_call 27; (with_reducible refine (is_yes 3 _).mono ?_); rintro e W' ⟨rfl, rfl⟩))
  go_ret
  exact ⟨rfl, rfl⟩
set_option maxRecDepth 100000 in
set_option maxHeartbeats 4000000 in
theorem codeOf_4 {a : Nat → Addr} {w : World} (h : Errs a w) :
    Calls Tryd.prog 16 #[errV (a 4)] w fun e w' => e = .returned (.int .i64 6) ∧ w = w' := by
  have v0 : w.cell? ⟨1, 0, none⟩ = some (errV (a 0)) := h.vars 0 (by omega)
  have v1 : w.cell? ⟨2, 0, none⟩ = some (errV (a 1)) := h.vars 1 (by omega)
  have v5 : w.cell? ⟨3, 0, none⟩ = some (errV (a 5)) := h.vars 5 (by omega)
  have v2 : w.cell? ⟨4, 0, none⟩ = some (errV (a 2)) := h.vars 2 (by omega)
  have v3 : w.cell? ⟨0, 0, none⟩ = some (errV (a 3)) := h.vars 3 (by omega)
  have v4 : w.cell? ⟨5, 0, none⟩ = some (errV (a 4)) := h.vars 4 (by omega)
  have H := Lib.hid h
  clear h
  go_enter Tryd.func16, Tryd.ntmps16
  go_wp2_with (first | (go_at_call 27; (with_reducible refine (is_no H.out 4 0 (by omega) (by omega) (by omega)).mono ?_); rintro e W' ⟨rfl, rfl⟩) | (go_at_call 27; (with_reducible refine (is_no H.out 4 1 (by omega) (by omega) (by omega)).mono ?_); rintro e W' ⟨rfl, rfl⟩) | (go_at_call 27; (with_reducible refine (is_no H.out 4 5 (by omega) (by omega) (by omega)).mono ?_); rintro e W' ⟨rfl, rfl⟩) | (go_at_call 27; (with_reducible refine (is_no H.out 4 2 (by omega) (by omega) (by omega)).mono ?_); rintro e W' ⟨rfl, rfl⟩) | (go_at_call 27; (with_reducible refine (is_no H.out 4 3 (by omega) (by omega) (by omega)).mono ?_); rintro e W' ⟨rfl, rfl⟩) | (go_at_call 27; (with_reducible refine (is_yes 4 _).mono ?_); rintro e W' ⟨rfl, rfl⟩))
  go_ret
  exact ⟨rfl, rfl⟩
set_option maxRecDepth 100000 in
set_option maxHeartbeats 4000000 in
theorem codeOf_5 {a : Nat → Addr} {w : World} (h : Errs a w) :
    Calls Tryd.prog 16 #[errV (a 5)] w fun e w' => e = .returned (.int .i64 3) ∧ w = w' := by
  have v0 : w.cell? ⟨1, 0, none⟩ = some (errV (a 0)) := h.vars 0 (by omega)
  have v1 : w.cell? ⟨2, 0, none⟩ = some (errV (a 1)) := h.vars 1 (by omega)
  have v5 : w.cell? ⟨3, 0, none⟩ = some (errV (a 5)) := h.vars 5 (by omega)
  have H := Lib.hid h
  clear h
  go_enter Tryd.func16, Tryd.ntmps16
  go_wp2_with (first | (go_at_call 27; (with_reducible refine (is_no H.out 5 0 (by omega) (by omega) (by omega)).mono ?_); rintro e W' ⟨rfl, rfl⟩) | (go_at_call 27; (with_reducible refine (is_no H.out 5 1 (by omega) (by omega) (by omega)).mono ?_); rintro e W' ⟨rfl, rfl⟩) | (go_at_call 27; (with_reducible refine (is_yes 5 _).mono ?_); rintro e W' ⟨rfl, rfl⟩))
  go_ret
  exact ⟨rfl, rfl⟩
set_option maxRecDepth 100000 in
set_option maxHeartbeats 4000000 in
theorem codeOf_6 {a : Nat → Addr} {w : World} (h : Errs a w) :
    Calls Tryd.prog 16 #[errV (a 6)] w fun e w' => e = .returned (.int .i64 7) ∧ w = w' := by
  have v0 : w.cell? ⟨1, 0, none⟩ = some (errV (a 0)) := h.vars 0 (by omega)
  have v1 : w.cell? ⟨2, 0, none⟩ = some (errV (a 1)) := h.vars 1 (by omega)
  have v5 : w.cell? ⟨3, 0, none⟩ = some (errV (a 5)) := h.vars 5 (by omega)
  have v2 : w.cell? ⟨4, 0, none⟩ = some (errV (a 2)) := h.vars 2 (by omega)
  have v3 : w.cell? ⟨0, 0, none⟩ = some (errV (a 3)) := h.vars 3 (by omega)
  have v4 : w.cell? ⟨5, 0, none⟩ = some (errV (a 4)) := h.vars 4 (by omega)
  have v6 : w.cell? ⟨6, 0, none⟩ = some (errV (a 6)) := h.vars 6 (by omega)
  have H := Lib.hid h
  clear h
  go_enter Tryd.func16, Tryd.ntmps16
  go_wp2_with (first | (go_at_call 27; (with_reducible refine (is_no H.out 6 0 (by omega) (by omega) (by omega)).mono ?_); rintro e W' ⟨rfl, rfl⟩) | (go_at_call 27; (with_reducible refine (is_no H.out 6 1 (by omega) (by omega) (by omega)).mono ?_); rintro e W' ⟨rfl, rfl⟩) | (go_at_call 27; (with_reducible refine (is_no H.out 6 5 (by omega) (by omega) (by omega)).mono ?_); rintro e W' ⟨rfl, rfl⟩) | (go_at_call 27; (with_reducible refine (is_no H.out 6 2 (by omega) (by omega) (by omega)).mono ?_); rintro e W' ⟨rfl, rfl⟩) | (go_at_call 27; (with_reducible refine (is_no H.out 6 3 (by omega) (by omega) (by omega)).mono ?_); rintro e W' ⟨rfl, rfl⟩) | (go_at_call 27; (with_reducible refine (is_no H.out 6 4 (by omega) (by omega) (by omega)).mono ?_); rintro e W' ⟨rfl, rfl⟩) | (go_at_call 27; (with_reducible refine (is_yes 6 _).mono ?_); rintro e W' ⟨rfl, rfl⟩))
  go_ret
  exact ⟨rfl, rfl⟩

/-- The code of the k-th error. -/
theorem codeOf_any {a : Nat → Addr} {w : World} (h : Errs a w) (k : Nat) (hk : k < 7) :
    Calls Tryd.prog 16 #[errV (a k)] w fun e w' => e = .returned (.int .i64 (codeK k)) ∧ w = w' := by
  have : k = 0 ∨ k = 1 ∨ k = 2 ∨ k = 3 ∨ k = 4 ∨ k = 5 ∨ k = 6 := by omega
  rcases this with rfl | rfl | rfl | rfl | rfl | rfl | rfl
  · exact codeOf_0 h
  · exact codeOf_1 h
  · exact codeOf_2 h
  · exact codeOf_3 h
  · exact codeOf_4 h
  · exact codeOf_5 h
  · exact codeOf_6 h
end Go.Proofs.YtaaphdbaocjecaaDoor

/-
  An error is not nil.
-/
namespace Go.Proofs.YtaaphdbaocjecaaDoor
open Go Go.RowKit Go.BigFrame
@[go_sem] theorem guard_err (x : Operand) (a : Addr) (W : World) : (eqGuard .neq 41 x (.const .nilIface) (errV a) .nilIface).run Tryd.prog W = .ok () W := by
  unfold errV; go_simp
@[go_sem] theorem neq_err (a : Addr) (W : World) : (binOp .neq 41 (errV a) .nilIface).run Tryd.prog W = .ok (.bool true) W := by
  unfold errV; go_simp
end Go.Proofs.YtaaphdbaocjecaaDoor

/-
  errors.Join of errors that are all the same one, or nil, by contract.
-/
namespace Go.Proofs.YtaaphdbaocjecaaDoor
open Go Go.RowKit Go.BigFrame

/-- Errors told by whether they are there; x the one that it is. -/
def errE (x : Addr) (es : Nat → Bool) : Nat → Value := fun k => if es k then errV x else .nilIface
theorem errE_one (x : Addr) (es : Nat → Bool) (k : Nat) : (errE x es k).oneCell' = true := by unfold errE; split <;> rfl
/-- How many of the first k are there. -/
def cntE (es : Nat → Bool) : Nat → Nat
  | 0 => 0
  | k + 1 => cntE es k + (if es k then 1 else 0)
theorem cntE_le (es : Nat → Bool) : ∀ k, cntE es k ≤ k
  | 0 => by simp [cntE]
  | k + 1 => by have := cntE_le es k; simp only [cntE]; split <;> omega
theorem cntE_mono (es : Nat → Bool) : ∀ {k n : Nat}, k ≤ n → cntE es k ≤ cntE es n
  | k, 0, h => by obtain rfl : k = 0 := by omega
                  exact Nat.le_refl _
  | k, n + 1, h => by
    by_cases e : k = n + 1
    · rw [e]; exact Nat.le_refl _
    · have := cntE_mono es (show k ≤ n by omega); simp only [cntE]; omega
theorem cntE_yes {es : Nat → Bool} {k : Nat} (h : es k = true) : cntE es (k + 1) = cntE es k + 1 := by simp [cntE, h]
theorem cntE_no {es : Nat → Bool} {k : Nat} (h : es k = false) : cntE es (k + 1) = cntE es k := by simp [cntE, h]

theorem upd_one (f : Nat → Value) (v : Value) : ∀ k, k < 1 → upd f 0 v k = v := fun k hk => by simp [upd, show k = 0 by omega]
/-- A joined error's value; what lies behind it. -/
def joinV (b : Nat) : Value := .iface 96 (.pointer (some ⟨b, 0, none⟩))
def JoinAt (W : World) (b : Nat) (x : Addr) (c : Nat) : Prop := ∃ eb cc F, At W b 1 (fun _ => .slice (some ⟨eb, 0, none⟩) c cc) ∧ At W eb (cc * 1) F ∧ b ≠ eb ∧ c ≤ cc ∧ ∀ j, j < c → F j = errV x
theorem JoinAt.below {W W' : World} {b c : Nat} {x : Addr} (h : JoinAt W b x c) (hb : Below W.heap.size W W') : JoinAt W' b x c := by
  obtain ⟨eb, cc, F, h1, h2, h3⟩ := h
  exact ⟨eb, cc, F, h1.below hb h1.lt, h2.below hb h2.lt, h3⟩

theorem run_buildJ (v : Value) (W : World) (b : Option Addr) (n c : Nat) (hv : v = .slice b n c) : (Instr.build 98 #[(0, v)]).run Tryd.prog W = .ok (.agg (arr 1 fun _ => v)) W := by
  subst hv; kernel_rfl
theorem wpList_buildJ {ops : Array Oper} {rest : List Oper} {o : Oper} {a : Act} {W : World} {Q : Exit → Act → World → Prop} (hgd : o.guard = none) (x : Operand) (ho : o.op = .build 98 #[(0, x)]) (b : Option Addr) (n c : Nat) (hx : a.eval x = .slice b n c)
    (h : wpList Tryd.prog ops Q rest (a.put o.dst (.agg (arr 1 fun _ => .slice b n c))) W) : wpList Tryd.prog ops Q (o :: rest) a W := by
  refine wpList_plain hgd fun K hK => ?_
  unfold Oper.wp execOp
  have e : (Array.map (fun (z : Nat × Operand) => match z with | (i, x) => (i, a.eval x)) #[(0, x)]) = #[(0, .slice b n c)] := by simp [hx]
  simp only [ho, e, Sem.run_bind, Sem.run_pure, run_buildJ _ W b n c rfl, Result.andThen_ok]
  exact hK _ _ h
theorem err_info : (Tryd.prog.info? 41).map (fun i => (i.size, i.zero, i.bytes)) = some (1, some .nilIface, 16) := by kernel_rfl
theorem err_info2 : (Tryd.prog.info? 41).map (fun i => (i.size, i.zero)) = some (1, some .nilIface) := by kernel_rfl
theorem errs_under : Tryd.prog.underlying 95 = some (.slice 41) := Tryd.underlying95

def JoinIn (w : World) (bl m n : Nat) (x : Addr) (es : Nat → Bool) (sb k : Nat) (wr : World) : Prop :=
  ∃ eb c F, (∀ j, j < cntE es k * 1 → F j = errV x) ∧ cntE es k ≤ c ∧ w.heap.size ≤ eb ∧ Mem w [(eb, c * 1, F), (sb, 1, fun _ => .slice (some ⟨eb, 0, none⟩) (cntE es k) c), (bl, m, errE x es)] wr

set_option maxRecDepth 100000 in
set_option maxHeartbeats 2000000 in
theorem join_none (x : Addr) (es : Nat → Bool) (bl m c : Nat) (hm : m ≤ 3) (h0 : cntE es m = 0) (w : World) (hA : At w bl m (errE x es)) :
    Calls Tryd.prog 33 #[.slice (some ⟨bl, 0, none⟩) m c] w fun e w' => e = .returned .nilIface ∧ Below w.heap.size w w' := by
  have hM : Mem w [(bl, m, errE x es)] w := (Mem.nil w).old hA (fun i p h => by simp at h)
  have hno : ∀ k, k < m → es k = false := fun k hk => by
    have := cntE_mono es (show k + 1 ≤ m by omega)
    cases e : es k
    · rfl
    · rw [cntE_yes e] at this; omega
  have Hno := Lib.hid hno
  clear hno h0 hA
  go_enter Tryd.func33, Tryd.ntmps33
  go_wp2
  go_loopw [3, 11] (fun n i wr => ∃ k : Nat, k ≤ m ∧ n = .int .i64 0 ∧ i = .int .i64 k ∧ Mem w [(bl, m, errE x es)] wr) (fun _ i _ => m - (intOf i).toNat)
  case atStart => exact ⟨0, by omega, rfl, rfl, hM⟩
  case round =>
    clear hM
    obtain ⟨k, hk, rfl, rfl, hM⟩ := hrel
    by_cases hlt : k < m
    · have lk : (k : Int) < m := by omega
      have e0 : errE x es (k * 1) = .nilIface := by rw [Nat.mul_one]; simp [errE, Hno.out k hlt]
      have e0' : errE x es k = .nilIface := by simp [errE, Hno.out k hlt]
      go_wp2_with (first | (refine wpList_get1 rfl _ _ rfl _ _ rfl hM 0 rfl (cellTab _ rfl) (by omega) _ (by first | exact e0 | exact e0') ?_))
      go_roundw
      case rel => exact ⟨k + 1, by omega, rfl, by go_num, hM⟩
      case measure => simp [intOf]; omega
    · obtain rfl : k = m := by omega
      go_wp2
      go_ret
      exact ⟨rfl, hM.below⟩

theorem errE_yes {x : Addr} {es : Nat → Bool} {k : Nat} (h : es k = true) : errE x es k = errV x := by simp [errE, h]
theorem errE_no {x : Addr} {es : Nat → Bool} {k : Nat} (h : es k = false) : errE x es k = .nilIface := by simp [errE, h]
set_option maxRecDepth 100000 in
set_option maxHeartbeats 4000000 in
theorem join_some (x : Addr) (es : Nat → Bool) (bl m c : Nat) (hm : m ≤ 3) (h0 : 0 < cntE es m) (w : World) (hA : At w bl m (errE x es)) :
    Calls Tryd.prog 33 #[.slice (some ⟨bl, 0, none⟩) m c] w fun e w' => ∃ b, e = .returned (joinV b) ∧ JoinAt w' b x (cntE es m) ∧ Below w.heap.size w w' := by
  have hM : Mem w [(bl, m, errE x es)] w := (Mem.nil w).old hA (fun i p h => by simp at h)
  clear hA
  go_enter Tryd.func33, Tryd.ntmps33
  go_wp2
  go_loopw [3, 11] (fun n i wr => ∃ k : Nat, k ≤ m ∧ n = .int .i64 (cntE es k : Nat) ∧ i = .int .i64 k ∧ Mem w [(bl, m, errE x es)] wr) (fun _ i _ => m - (intOf i).toNat)
  case atStart => exact ⟨0, by omega, rfl, rfl, hM⟩
  case round =>
    clear hM
    obtain ⟨k, hk, rfl, rfl, hM⟩ := hrel
    by_cases hlt : k < m
    · have lk : (k : Int) < m := by omega
      have hle := cntE_le es k
      have c1 : IntKind.i64.wrap ((cntE es k : Nat) + 1 : Int) = ((cntE es k + 1 : Nat) : Int) := by rw [IntWalk.i64_in _ (by omega)]; rfl
      clear hle
      cases he : es k
      · have e0 : errE x es k = .nilIface := errE_no he
        have e1 : errE x es (k * 1) = .nilIface := by rw [Nat.mul_one]; exact e0
        go_wp2_with (first | (refine wpList_get1 rfl _ _ rfl _ _ rfl hM 0 rfl (cellTab _ rfl) (by omega) _ (by first | exact e0 | exact e1) ?_))
        go_roundw
        case rel => exact ⟨k + 1, by omega, by rw [cntE_no he], by go_num, hM⟩
        case measure => simp [intOf]; omega
      · have e0 : errE x es k = errV x := errE_yes he
        have e1 : errE x es (k * 1) = errV x := by rw [Nat.mul_one]; exact e0
        go_wp2_with (first | (refine wpList_get1 rfl _ _ rfl _ _ rfl hM 0 rfl (cellTab _ rfl) (by omega) _ (by first | exact e0 | exact e1) ?_))
        go_roundw
        case rel => exact ⟨k + 1, by omega, by rw [cntE_yes he]; exact congrArg _ (by omega), by go_num, hM⟩
        case measure => simp [intOf]; omega
    · obtain rfl : k = m := by omega
      have hle := cntE_le es k
      have hpos : ¬ ((cntE es k : Nat) : Int) = 0 := by omega
      have hpos2 : decide (((cntE es k : Nat) : Int) = 0) = false := decide_eq_false hpos
      have tk_q1 : True := trivial; have tk_q2 : True := trivial; have tk_q3 : True := trivial
      go_wp2_with (first | (have _t := tk_q1; refine wpList_make0 rfl _ _ _ _ rfl (cntE es k) rfl rfl .nilIface 16 rfl errs_under err_info (by omega) (by omega) hM ?_; intro eb W' heb hM'; clear hM tk_q1; have hM := hM'; clear hM') | (have _t := tk_q2; refine wpList_buildJ rfl _ rfl _ _ _ rfl ?_; clear tk_q2) | (have _t := tk_q3; refine wpList_box rfl _ _ rfl 1 _ rfl hM ?_; intro sb W' hsb hM'; clear hM tk_q3; have hM := hM'; clear hM'))
      have hJ : ∀ w0, w0 = w → ∀ wr, Mem w [(sb, 1, fun _ => .slice (some ⟨eb, 0, none⟩) 0 (cntE es k)), (eb, cntE es k * 1, fun _ => .nilIface), (bl, k, errE x es)] wr → JoinIn w bl k (cntE es k) x es sb 0 wr := fun _ _ wr h =>
        ⟨eb, cntE es k, fun _ => .nilIface, fun j hj => absurd hj (by simp [cntE]), by simp [cntE], heb, h.swap⟩
      go_loopw [28] (fun i wr => ∃ j : Nat, j ≤ k ∧ i = .int .i64 j ∧ JoinIn w bl k (cntE es k) x es sb j wr) (fun i _ => k - (intOf i).toNat)
      case atStart => exact ⟨0, by omega, rfl, hJ _ rfl _ hM⟩
      case round =>
        clear hM hJ
        obtain ⟨j, hj, rfl, eb1, c1, F1, hF1, hc1, heb1, hM⟩ := hrel
        by_cases hjl : j < k
        · have lj : (j : Int) < k := by omega
          have hlej := cntE_le es j
          cases he : es j
          · have e0 : errE x es j = .nilIface := errE_no he
            have e1 : errE x es (j * 1) = .nilIface := by rw [Nat.mul_one]; exact e0
            go_wp2_with (first | (refine wpList_get1 rfl _ _ rfl _ _ rfl hM 2 rfl (cellTab _ rfl) (by omega) _ (by first | exact e0 | exact e1) ?_))
            go_roundw
            case rel => exact ⟨j + 1, by omega, by go_num, eb1, c1, F1, by rw [cntE_no he]; exact hF1, by rw [cntE_no he]; exact hc1, heb1, by rw [cntE_no he]; exact hM⟩
            case measure => simp [intOf]; omega
          · have e0 : errE x es j = errV x := errE_yes he
            have e1 : errE x es (j * 1) = errV x := by rw [Nat.mul_one]; exact e0
            have tk_r1 : True := trivial; have tk_r2 : True := trivial; have tk_r3 : True := trivial; have tk_p1 : True := trivial; have tk_r4 : True := trivial
            go_wp2_with (first | (have _t := tk_r1; refine wpList_get1 rfl _ _ rfl _ _ rfl hM 2 rfl (cellTab _ rfl) (by omega) _ (by first | exact e0 | exact e1) ?_; clear tk_r1) | (have _t := tk_r2; (refine wpList_get1 rfl _ _ rfl _ _ rfl hM 1 rfl (cellTab _ rfl) (by omega) _ rfl ?_); clear tk_r2) | (have _t := tk_r3; refine wpList_lit1 rfl _ _ _ rfl (errV x) rfl rfl _ errs_under err_info2 hM ?_; intro bn W' hbn hM'; clear hM tk_r3; have hM := hM'; clear hM') | (have _t := tk_p1; refine wpList_push1 rfl _ _ _ rfl _ 1 _ _ errs_under err_info rfl (by omega) _ _ _ _ rfl heb1 hc1 (by omega) _ _ rfl (fun _ _ => rfl) hM (fun _ => errV x) hF1 (fun _ _ => rfl) ?_; intro bL cL FL W' hbL hcL hFL hM'; clear hM tk_p1; have hM := hM'; clear hM') | (have _t := tk_r4; (refine wpList_set1 rfl _ _ _ rfl _ _ rfl _ rfl ?_ hM 1 rfl (by assumption) (cellTab _ rfl) (by omega) ?_; (first | rfl | exact h1 _); intro W' hM'; clear hM; have hM := hM'; clear hM'; simp [List.set, Act.eval] at hM); clear tk_r4))
            have hM2 := hM.re (b := sb) (n := 1) 1 rfl (fun _ => .slice (some ⟨bL, 0, none⟩) (cntE es j + 1) cL) (upd_one _ _)
            simp only [List.set] at hM2
            go_roundw
            case rel => exact ⟨j + 1, by omega, by go_num, bL, cL, FL, by rw [cntE_yes he]; exact hFL, by rw [cntE_yes he]; exact hcL, hbL, by rw [cntE_yes he, Nat.mul_one]; exact hM2⟩
            case measure => simp [intOf]; omega
        · obtain rfl : j = k := by omega
          go_wp2
          go_ret
          exact ⟨sb, rfl, ⟨eb1, c1, F1, hM.ats 1 _ _ _ rfl, hM.ats 0 _ _ _ rfl, hM.apart 1 0 _ _ rfl rfl (by omega), hc1, fun i hi => hF1 i (by omega)⟩, hM.below⟩
end Go.Proofs.YtaaphdbaocjecaaDoor

/-
  errors.Is and impl.codeOf of joined errors, by contracts.
-/
namespace Go.Proofs.YtaaphdbaocjecaaDoor
open Go Go.RowKit Go.BigFrame Go.Extern.Stop Go.Stop Go.Extern

theorem hasUnwraps (v : Value) (xT : TypeId) (w : World) : (Instr.typeAssert (.iface 96 v) xT 111 true).run Tryd.prog w = .ok (.tuple #[.iface 96 v, .bool true]) w := run_typeAssert_hasB Tryd.underlying111 (by kernel_rfl) v xT w
theorem noIsJ (v : Value) (xT : TypeId) (w : World) : (Instr.typeAssert (.iface 96 v) xT 106 true).run Tryd.prog w = .ok (.tuple #[.nilIface, .bool false]) w := run_typeAssert_lacksB Tryd.underlying106 (by kernel_rfl) (by kernel_rfl) v xT w
theorem noUnwrapJ (v : Value) (xT : TypeId) (w : World) : (Instr.typeAssert (.iface 96 v) xT 109 true).run Tryd.prog w = .ok (.tuple #[.nilIface, .bool false]) w := run_typeAssert_lacksB Tryd.underlying109 (by kernel_rfl) (by kernel_rfl) v xT w
theorem methodUnwraps (v : Value) (w : World) : (Go.method 290 96 v "Unwrap").run Tryd.prog w = .ok (109, v) w := by kernel_rfl
theorem eql_types (b : Nat) (y : Addr) (w : World) : (binOp .eql 41 (joinV b) (errV y)).run Tryd.prog w = .ok (.bool false) w := run_eql_iface_types _ _ _ _ Tryd.underlying41 (by decide) w

set_option maxRecDepth 100000 in
/-- errors.is of one error and itself. -/
theorem is1_same (x : Addr) (w : World) :
    Calls Tryd.prog 41 #[errV x, errV x, .bool true] w fun e w' => e = .returned (.bool true) ∧ w' = w := by
  obtain ⟨i, hi, hcmp⟩ := Option.map_eq_some_iff.1 isComp
  obtain ⟨j, hj, hjs⟩ := Option.map_eq_some_iff.1 isSize
  have heq := run_eql_iface_ptr_same (P := Tryd.prog) w x Tryd.underlying41 Tryd.underlying154 hi hcmp hj
  unfold errV
  go_enter Tryd.func41, Tryd.ntmps41
  go_wp2
  refine wp_loop_rounds 1 ?_
  rw [rounds_succ]
  go_wp2
  go_ret
  exact ⟨rfl, rfl⟩
set_option maxRecDepth 100000 in
/-- errors.is of two different errors. -/
theorem is1_other (a b : Addr) (ca cb : Array Value) (ta tb : TypeId) (w : World) (hne : a ≠ b) (ha : w.heap[a.block]? = some (.cells ca ta (0, 0))) (hb : w.heap[b.block]? = some (.cells cb tb (0, 0))) :
    Calls Tryd.prog 41 #[errV a, errV b, .bool true] w fun e w' => e = .returned (.bool false) ∧ w' = w := by
  obtain ⟨i, hi, hcmp⟩ := Option.map_eq_some_iff.1 isComp
  obtain ⟨j, hj, hjs⟩ := Option.map_eq_some_iff.1 isSize
  have nE := noIsE
  have uE := noUnwrapE
  have vE := noUnwrapsE
  have heq := run_eql_iface_ptr_other (P := Tryd.prog) w Tryd.underlying41 Tryd.underlying154 hi hcmp hj (by rw [hjs]; decide) hne ha hb
  unfold errV
  go_enter Tryd.func41, Tryd.ntmps41
  go_wp2
  refine wp_loop_rounds 1 ?_
  rw [rounds_succ]
  go_wp2
  go_ret
  exact ⟨rfl, rfl⟩
theorem is1_no {a : Nat → Addr} {w : World} (h : Errs a w) (i j : Nat) (hi : i < 7) (hj : j < 7) (e : i ≠ j) :
    Calls Tryd.prog 41 #[errV (a i), errV (a j), .bool true] w fun e w' => e = .returned (.bool false) ∧ w = w' := by
  obtain ⟨ca, ta, ha⟩ := h.cells i hi
  obtain ⟨cb, tb, hb⟩ := h.cells j hj
  exact (is1_other _ _ ca cb ta tb w (h.apart i j hi hj e) ha hb).mono fun _ _ h => ⟨h.1, h.2.symm⟩

theorem unwraps_any (b : Nat) (v : Value) (w : World) (hA : At w b 1 fun _ => v) :
    Calls Tryd.prog 109 #[.pointer (some ⟨b, 0, none⟩)] w fun e w' => e = .returned v ∧ w' = w := by
  have hc : w.cell? ⟨b, 0, none⟩ = some v := hA.cell (by omega)
  go_enter Tryd.func109, Tryd.ntmps109
  go_wp2
  go_ret
  exact ⟨rfl, rfl⟩

set_option maxRecDepth 100000 in
set_option maxHeartbeats 2000000 in
/-- errors.is of a joined error and the one that it holds. -/
theorem isJ_yes (b c : Nat) (x : Addr) (hc : 0 < c) (w : World) (hJ : JoinAt w b x c) :
    Calls Tryd.prog 41 #[joinV b, errV x, .bool true] w fun e w' => e = .returned (.bool true) ∧ w = w' := by
  obtain ⟨eb, cc, F, h1, h2, hne, hle, hF⟩ := hJ
  have nE := noIsJ
  have uE := noUnwrapJ
  have vE := hasUnwraps
  have mU := methodUnwraps
  have heq := eql_types b x
  have c0 : w.cell? ⟨eb, 0, none⟩ = some (errV x) := by rw [h2.cell (by omega), hF 0 hc]
  have lc : (0 : Int) < c := by omega
  have H1 := Lib.hid h1
  clear h1 h2 hF
  unfold joinV at heq ⊢
  go_enter Tryd.func41, Tryd.ntmps41
  go_wp2
  refine wp_loop_rounds 1 ?_
  rw [rounds_succ]
  go_wp2_with (first | (go_at_call 109; refine (unwraps_any b _ _ H1.out).mono ?_; rintro e W' ⟨rfl, rfl⟩))
  refine wp_loop_rounds 1 ?_
  rw [rounds_succ]
  go_wp2_with (first | (go_at_call 41; refine (is1_same x _).mono ?_; rintro e W' ⟨rfl, rfl⟩))
  go_ret
  exact ⟨rfl, rfl⟩

set_option maxRecDepth 100000 in
set_option maxHeartbeats 2000000 in
/-- errors.is of a joined error and another one than it holds. -/
theorem isJ_no {a : Nat → Addr} (b c : Nat) (i j : Nat) (hi : i < 7) (hj : j < 7) (hij : i ≠ j) (hcm : c ≤ 1000) (w : World) (hJ : JoinAt w b (a i) c) (hE : Errs a w) :
    Calls Tryd.prog 41 #[joinV b, errV (a j), .bool true] w fun e w' => e = .returned (.bool false) ∧ w = w' := by
  obtain ⟨eb, cc, F, h1, h2, hne, hle, hF⟩ := hJ
  have nE := noIsJ
  have uE := noUnwrapJ
  have vE := hasUnwraps
  have mU := methodUnwraps
  have heq := eql_types b (a j)
  have HF : Hid (∀ k, k < c → w.cell? ⟨eb, k, none⟩ = some (errV (a i))) := Lib.hid (fun k hk => by rw [h2.cell (by omega), hF k hk])
  have H1 := Lib.hid h1
  have HE := Lib.hid hE
  clear h1 h2 hF hE
  unfold joinV at heq ⊢
  go_enter Tryd.func41, Tryd.ntmps41
  go_wp2
  refine wp_loop_rounds 1 ?_
  rw [rounds_succ]
  go_wp2_with (first | (go_at_call 109; refine (unwraps_any b _ _ H1.out).mono ?_; rintro e W' ⟨rfl, rfl⟩))
  go_loopw [45] (fun n wr => ∃ k : Nat, k ≤ c ∧ n = .int .i64 k ∧ wr = W') (fun n _ => c - (intOf n).toNat)
  case atStart => exact ⟨0, by omega, rfl, rfl⟩
  case round =>
    obtain ⟨k, hk, rfl, rfl⟩ := hrel
    by_cases hlt : k < c
    · have lk : (k : Int) < c := by omega
      have ck := HF.out k hlt
      go_wp2_with (first | (go_at_call 41; refine (is1_no HE.out i j hi hj hij).mono ?_; rintro e W' ⟨rfl, rfl⟩))
      go_roundw
      case rel => exact ⟨k + 1, by omega, by go_num, by first | rfl | trivial⟩
      case measure => simp [intOf]; omega
    · obtain rfl : k = c := by omega
      go_wp2
      go_ret
      exact ⟨rfl, rfl⟩

set_option maxRecDepth 100000 in
theorem IsJ_yes {a : Nat → Addr} (b c : Nat) (i : Nat) (hi : i < 7) (hc : 0 < c) (w : World) (hJ : JoinAt w b (a i) c) :
    Calls Tryd.prog 27 #[joinV b, errV (a i)] w fun e w' => e = .returned (.bool true) ∧ w = w' := by
  have h8 := @run_callFunc_extern Tryd.prog 40 _ Extern.ReflectliteType.typeOf Tryd.func40 (by kernel_rfl) (by kernel_rfl) (by kernel_rfl) (by kernel_rfl)
  have tT := isTypeOf
  have cT := isComparable
  have mR := isMethodComparable
  have hY := isJ_yes b c (a i) hc w hJ
  unfold joinV errV at hY ⊢
  go_enter Tryd.func27, Tryd.ntmps27
  go_wp2_with (first | (go_at_call 41; refine hY.mono ?_; rintro e W' ⟨rfl, rfl⟩))
  go_ret
  exact ⟨rfl, rfl⟩
set_option maxRecDepth 100000 in
theorem IsJ_no {a : Nat → Addr} (b c : Nat) (i j : Nat) (hi : i < 7) (hj : j < 7) (hij : i ≠ j) (hcm : c ≤ 1000) (w : World) (hJ : JoinAt w b (a i) c) (hE : Errs a w) :
    Calls Tryd.prog 27 #[joinV b, errV (a j)] w fun e w' => e = .returned (.bool false) ∧ w = w' := by
  have h8 := @run_callFunc_extern Tryd.prog 40 _ Extern.ReflectliteType.typeOf Tryd.func40 (by kernel_rfl) (by kernel_rfl) (by kernel_rfl) (by kernel_rfl)
  have tT := isTypeOf
  have cT := isComparable
  have mR := isMethodComparable
  have hY := isJ_no b c i j hi hj hij hcm w hJ hE
  unfold joinV errV at hY ⊢
  go_enter Tryd.func27, Tryd.ntmps27
  go_wp2_with (first | (go_at_call 41; refine hY.mono ?_; rintro e W' ⟨rfl, rfl⟩))
  go_ret
  exact ⟨rfl, rfl⟩

set_option maxRecDepth 100000 in
set_option maxHeartbeats 4000000 in
/-- The code of joined errors of which each is the first one. -/
theorem codeJ_0 {a : Nat → Addr} {w : World} (b c : Nat) (hc : 0 < c) (h : Errs a w) (hJ : JoinAt w b (a 0) c) :
    Calls Tryd.prog 16 #[joinV b] w fun e w' => e = .returned (.int .i64 1) ∧ w = w' := by
  have v0 : w.cell? ⟨1, 0, none⟩ = some (errV (a 0)) := h.vars 0 (by omega)
  have HJ := Lib.hid hJ
  clear h hJ
  go_enter Tryd.func16, Tryd.ntmps16
  go_wp2_with (first | (go_at_call 27; (with_reducible refine (IsJ_yes b c 0 (by omega) hc _ HJ.out).mono ?_); rintro e W' ⟨rfl, rfl⟩))
  go_ret
  exact ⟨rfl, rfl⟩
set_option maxRecDepth 100000 in
set_option maxHeartbeats 4000000 in
/-- The code of joined errors of which each is the second one. -/
theorem codeJ_1 {a : Nat → Addr} {w : World} (b c : Nat) (hc : 0 < c) (hcm : c ≤ 1000) (h : Errs a w) (hJ : JoinAt w b (a 1) c) :
    Calls Tryd.prog 16 #[joinV b] w fun e w' => e = .returned (.int .i64 2) ∧ w = w' := by
  have v0 : w.cell? ⟨1, 0, none⟩ = some (errV (a 0)) := h.vars 0 (by omega)
  have v1 : w.cell? ⟨2, 0, none⟩ = some (errV (a 1)) := h.vars 1 (by omega)
  have HJ := Lib.hid hJ
  have H := Lib.hid h
  clear h hJ
  go_enter Tryd.func16, Tryd.ntmps16
  go_wp2_with (first | (go_at_call 27; (with_reducible refine (IsJ_no b c 1 0 (by omega) (by omega) (by omega) hcm _ HJ.out H.out).mono ?_); rintro e W' ⟨rfl, rfl⟩) | (go_at_call 27; (with_reducible refine (IsJ_yes b c 1 (by omega) hc _ HJ.out).mono ?_); rintro e W' ⟨rfl, rfl⟩))
  go_ret
  exact ⟨rfl, rfl⟩
@[go_sem] theorem guard_join (x : Operand) (b : Nat) (W : World) : (eqGuard .neq 41 x (.const .nilIface) (joinV b) .nilIface).run Tryd.prog W = .ok () W := by
  unfold joinV; go_simp
@[go_sem] theorem neq_join (b : Nat) (W : World) : (binOp .neq 41 (joinV b) .nilIface).run Tryd.prog W = .ok (.bool true) W := by
  unfold joinV; go_simp
end Go.Proofs.YtaaphdbaocjecaaDoor

