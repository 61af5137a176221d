/-
  Several texts in one: YardImpl, ListC, ListK, EqSpot, SpotS, SpotL.
-/
import Derived.Test.YtbmaljhnldepoaaDoorP8
import Derived.Test.YtbmaljhnldepoaaDoorP11
import Derived.Test.YtbmaljhnldepoaaDoorP12
import Derived.Test.YtbmaljhnldepoaaDoorP1
import Derived.Deep.Slices
import Derived.ChangeSame
import Derived.Laws.MakeOwn
import Derived.Lib.Hide
import Derived.Test.YtbmaljhnldepoaaDoorP5
import Derived.Test.YtbmaljhnldepoaaDoorP4
import Derived.Test.YtbmaljhnldepoaaDoorP2
/-
  (impl.Pasture).yardOf and impl.YardOf by contracts.
-/
namespace Go.Proofs.YtbmaljhnldepoaaDoor
open Go Go.RowKit Go.BigFrame Go.Maps

set_option maxRecDepth 100000 in
set_option maxHeartbeats 1000000 in
theorem yardOf_any (g : Nat → Int) (hg : Fits g) (ho : okB g = true) (W H : Nat) (hW : W ≤ 10) (hH : H ≤ 10) (hg0 : g 0 = W) (hg1 : g 1 = H) (x y : Nat) (hx : x ≤ 9) (hy : y ≤ 9) (hi : isB g (x : Int) (y : Int) = true) (w : World) :
    Calls Tryd.prog 57 #[.agg (arr 122 (pas g)), .agg (arr 2 (sp (x : Int) (y : Int)))] w (Gives1 w (thatF (foundB (foundOf (nbOf g) ((x : Int), (y : Int))).d) (upto W (H * W)))) := by
  have hM := Mem.nil w
  have hp := yard_perm (g := g) hi hg0 hg1
  have hs := yard_sorted (foundOf (nbOf g) ((x : Int), (y : Int))).d W (H * W)
  have hn : ((thatF (foundB (foundOf (nbOf g) ((x : Int), (y : Int))).d) (upto W (H * W))).map castC).length ≤ 1048576 := by
    have h1 := thatF_len (p := foundB (foundOf (nbOf g) ((x : Int), (y : Int))).d) (l := upto W (H * W))
    have h2 : (upto W (H * W)).length = H * W := by simp [upto]
    have h3 := Nat.mul_le_mul hH hW
    rw [List.length_map]; omega
  have hst := fun (W : World) (b : Nat) (h : At W b 2 (sp x y)) => stepsFrom_one g hg ho x y hx hy b W h
  generalize foundOf (nbOf g) ((x : Int), (y : Int)) = s at hst hp hs hn
  generalize hl : thatF (foundB s.d) (upto W (H * W)) = l at hp hs hn ⊢
  have Hp := Lib.hid hp
  have Hs := Lib.hid hs
  have Hn := Lib.hid hn
  have Hst := Lib.hid hst
  clear hp hs hn hst hl hi ho
  have tk_b1 : True := trivial; have tk_b2 : True := trivial; have tk_b3 : True := trivial
  go_enter Tryd.func57, Tryd.ntmps57
  go_wp2_with (first | (have _t := tk_b1; refine wpList_box rfl _ _ rfl _ _ rfl hM ?_; intro b1 W' hb1 hM'; clear hM tk_b1; have hM := hM'; clear hM') | (have _t := tk_b2; refine wpList_box rfl _ _ rfl _ _ rfl hM ?_; intro b2 W' hb2 hM'; clear hM tk_b2; have hM := hM'; clear hM') | (refine wpList_get rfl _ _ rfl _ _ rfl hM 1 rfl (rowTab _ _ rfl) (by omega) ?_) | (refine wpList_get rfl _ _ rfl _ _ rfl hM 0 rfl (rowTab _ _ rfl) (by omega) ?_) | (have _t := tk_b3; refine wpList_slice1 rfl _ _ _ rfl _ _ rfl _ spot_under spot_info (by omega) (by omega) hM ?_; intro b3 W' hb3 hM'; clear hM tk_b3; have hM := hM'; clear hM') | (go_at_call 109; refine (Hst.out _ b3 ((hM.ats 0 _ _ _ rfl).congr (fun k _ => by rw [Nat.zero_add]))).mono ?_; rintro e W' ⟨m, rfl, hm, hMm⟩; have hM' := (hM.call hMm.good.1).withO (o := mapO spV s.q (stV s.d)) rfl hMm.good.2; clear hM hMm; have hM := hM'; clear hM') | (go_at_call 108; refine (inOrder_any m s.q (l.map castC) (stV s.d) Hp.out Hs.out Hn.out _ hM.good.2).mono ?_; rintro e W2 ⟨v0, rfl, hL0⟩; have hU := Lst.up hM.less hL0; clear hL0))
  go_ret
  refine ⟨_, rfl, ?_⟩
  have := hU.1
  rw [List.length_map, sI_cast] at this
  exact this

set_option maxRecDepth 100000 in
set_option maxHeartbeats 4000000 in
theorem implYardOf_any {a : Nat → Addr} (g : Nat → Int) (hg : Fits g) (x y : Int) (w : World) (hE : Errs a w) :
    Calls Tryd.prog 18 #[.agg (arr 122 (pas g)), .agg (arr 2 (sp x y))] w (GivesS w (yardL g x y) (yardC g x y)) := by
  have hM := Mem.nil w
  have HE := Lib.hid hE
  clear hE
  rcases askC_cases g x y true with ⟨ho, hc⟩ | ⟨ho, hi, hc⟩ | ⟨ho, hi, -, hc⟩
  · have e1 : yardL g x y = [] := if_neg (by unfold yardC; rw [hc]; decide)
    have e2 : yardC g x y = 1 := hc
    rw [e1, e2]
    have Ho : Hid (validB g = false) := Lib.hid (by rw [← okB_eq]; exact ho)
    clear ho hc e1 e2
    have tk_b1 : True := trivial; have tk_b2 : True := trivial; have tk_b3 : True := trivial
    go_enter Tryd.func18, Tryd.ntmps18
    go_wp2_with (first | (have _t := tk_b1; refine wpList_box rfl _ _ rfl _ _ rfl hM ?_; intro b1 W' hb1 hM'; clear hM tk_b1; have hM := hM'; clear hM') | (have _t := tk_b2; refine wpList_box rfl _ _ rfl _ _ rfl hM ?_; intro b2 W' hb2 hM'; clear hM tk_b2; have hM := hM'; clear hM') | (refine wpList_get rfl _ _ rfl _ _ rfl hM 1 rfl (rowTab _ _ rfl) (by omega) ?_) | (refine wpList_get rfl _ _ rfl _ _ rfl hM 0 rfl (rowTab _ _ rfl) (by omega) ?_) | (have _t := tk_b3; refine wpList_slice1 rfl _ _ _ rfl _ _ rfl _ spot_under spot_info (by omega) (by omega) hM ?_; intro b3 W' hb3 hM'; clear hM tk_b3; have hM := hM'; clear hM') | (go_at_call 55; refine (checkCells_bad g hg _ _ (HE.out.below hM.below) Ho.out).mono ?_; rintro e W' ⟨rfl, hb'⟩; have hM' := hM.call hb'; clear hM hb'; have hM := hM'; clear hM') | (go_at_call 56; (with_reducible refine (codeOf_0 (HE.out.below hM.below)).mono ?_); rintro e W' ⟨rfl, rfl⟩))
    go_ret2
    exact ⟨_, rfl, .inl ⟨rfl, rfl, Mem.start hM.good⟩⟩
  · have e1 : yardL g x y = [] := if_neg (by unfold yardC; rw [hc]; decide)
    have e2 : yardC g x y = 2 := hc
    rw [e1, e2]
    have Ho : Hid (validB g = true) := Lib.hid (by rw [← okB_eq]; exact ho)
    have Hi : Hid (chkS a g (fun _ => (x, y)) 1 = errV (a 1)) := Lib.hid (chkS_no (by rw [allB_one]; simpa using hi))
    clear ho hc hi e1 e2
    have tk_b1 : True := trivial; have tk_b2 : True := trivial; have tk_b3 : True := trivial
    go_enter Tryd.func18, Tryd.ntmps18
    go_wp2_with (first | (have _t := tk_b1; refine wpList_box rfl _ _ rfl _ _ rfl hM ?_; intro b1 W' hb1 hM'; clear hM tk_b1; have hM := hM'; clear hM') | (have _t := tk_b2; refine wpList_box rfl _ _ rfl _ _ rfl hM ?_; intro b2 W' hb2 hM'; clear hM tk_b2; have hM := hM'; clear hM') | (refine wpList_get rfl _ _ rfl _ _ rfl hM 1 rfl (rowTab _ _ rfl) (by omega) ?_) | (refine wpList_get rfl _ _ rfl _ _ rfl hM 0 rfl (rowTab _ _ rfl) (by omega) ?_) | (have _t := tk_b3; refine wpList_slice1 rfl _ _ _ rfl _ _ rfl _ spot_under spot_info (by omega) (by omega) hM ?_; intro b3 W' hb3 hM'; clear hM tk_b3; have hM := hM'; clear hM') | (go_at_call 55; refine (checkCells_some g hg _ 1 1 2 (fun _ => (x, y)) (by omega) (by decide) _ ((hM.ats 0 _ _ _ rfl).congr (sp_sps0 _ _)) (HE.out.below hM.below) Ho.out).mono ?_; rintro e W' ⟨rfl, hb'⟩; rw [Hi.out]; have hM' := hM.call hb'; clear hM hb'; have hM := hM'; clear hM') | (go_at_call 56; (with_reducible refine (codeOf_1 (HE.out.below hM.below)).mono ?_); rintro e W' ⟨rfl, rfl⟩))
    go_ret2
    exact ⟨_, rfl, .inl ⟨rfl, rfl, Mem.start hM.good⟩⟩
  · obtain ⟨x', y', e1, hx', hy'⟩ := nat_of_in (in10_of ho hi)
    simp only [Prod.mk.injEq] at e1
    obtain ⟨rfl, rfl⟩ := e1
    have h0 : yardC g (x' : Int) (y' : Int) = 0 := hc
    have hl : yardL g (x' : Int) (y' : Int) = thatF (foundB (foundOf (nbOf g) ((x' : Int), (y' : Int))).d) (upto (g 0).toNat ((g 1).toNat * (g 0).toNat)) := if_pos h0
    rw [hl, h0]
    have ho' := ho
    unfold okB at ho'
    rw [Bool.and_eq_true, Bool.and_eq_true] at ho'
    have i0 := inB_true ho'.1.1
    have i1 := inB_true ho'.1.2
    have hY := fun W => yardOf_any g hg ho (g 0).toNat (g 1).toNat (by omega) (by omega) (by omega) (by omega) x' y' hx' hy' hi W
    generalize thatF (foundB (foundOf (nbOf g) ((x' : Int), (y' : Int))).d) (upto (g 0).toNat ((g 1).toNat * (g 0).toNat)) = l at hY
    have HY := Lib.hid hY
    have Ho : Hid (validB g = true) := Lib.hid (by rw [← okB_eq]; exact ho)
    have Hi : Hid (chkS a g (fun _ => ((x' : Int), (y' : Int))) 1 = .nilIface) := Lib.hid (chkS_yes (by rw [allB_one]; simpa using hi))
    clear ho hc hi hl h0 ho' i0 i1 hY
    have tk_b1 : True := trivial; have tk_b2 : True := trivial; have tk_b3 : True := trivial
    go_enter Tryd.func18, Tryd.ntmps18
    go_wp2_with (first | (have _t := tk_b1; refine wpList_box rfl _ _ rfl _ _ rfl hM ?_; intro b1 W' hb1 hM'; clear hM tk_b1; have hM := hM'; clear hM') | (have _t := tk_b2; refine wpList_box rfl _ _ rfl _ _ rfl hM ?_; intro b2 W' hb2 hM'; clear hM tk_b2; have hM := hM'; clear hM') | (refine wpList_get rfl _ _ rfl _ _ rfl hM 2 rfl (rowTab _ _ rfl) (by omega) ?_) | (refine wpList_get rfl _ _ rfl _ _ rfl hM 1 rfl (rowTab _ _ rfl) (by omega) ?_) | (refine wpList_get rfl _ _ rfl _ _ rfl hM 0 rfl (rowTab _ _ rfl) (by omega) ?_) | (have _t := tk_b3; refine wpList_slice1 rfl _ _ _ rfl _ _ rfl _ spot_under spot_info (by omega) (by omega) hM ?_; intro b3 W' hb3 hM'; clear hM tk_b3; have hM := hM'; clear hM') | (go_at_call 55; refine (checkCells_some g hg _ 1 1 2 (fun _ => ((x' : Int), (y' : Int))) (by omega) (by decide) _ ((hM.ats 0 _ _ _ rfl).congr (sp_sps0 _ _)) (HE.out.below hM.below) Ho.out).mono ?_; rintro e W' ⟨rfl, hb'⟩; rw [Hi.out]; have hM' := hM.call hb'; clear hM hb'; have hM := hM'; clear hM') | (go_at_call 57; refine (HY.out _).mono ?_; rintro e W2 ⟨v0, rfl, hL0⟩; have hU := Lst.up hM hL0; clear hL0))
    go_ret2
    exact ⟨_, rfl, hU.1⟩
theorem yardL_len (g : Nat → Int) (x y : Int) : (yardL g x y).length ≤ 1048576 := by
  unfold yardL
  split
  · rename_i h
    obtain ⟨ho, -, -⟩ := askC_0 h
    unfold okB at ho
    rw [Bool.and_eq_true, Bool.and_eq_true] at ho
    have i0 := inB_true ho.1.1
    have i1 := inB_true ho.1.2
    have h1 := thatF_len (p := foundB (foundOf (nbOf g) (x, y)).d) (l := upto (g 0).toNat ((g 1).toNat * (g 0).toNat))
    have h2 : (upto (g 0).toNat ((g 1).toNat * (g 0).toNat)).length = (g 1).toNat * (g 0).toNat := by simp [upto]
    have h3 := Nat.mul_le_mul (show (g 1).toNat ≤ 10 by omega) (show (g 0).toNat ≤ 10 by omega)
    omega
  · simp
end Go.Proofs.YtbmaljhnldepoaaDoor

/-
  Lists as arguments: make; what lies in memory of old; lists of elements of one cell; a number out of a reading.
-/
namespace Go.Proofs.YtbmaljhnldepoaaDoor
open Go Go.RowKit Go.BigFrame Go.ChangeShapes Go.WideShapes Go.Deep

/-! ### make -/
variable {P : Program} {ops : Array Oper} {rest : List Oper} {o : Oper} {a : Act} {w : Base} {W : World} {Q : Exit → Act → World → Prop} {L : Blocks}
theorem made_arr (m N : Nat) (z : Nat → Value) (hm : 0 < m) : madeCells (arr m z) N = arr N (fun k => z (k % m)) := by
  refine arr_ext (by simp [madeCells]) (fun k hk => ?_)
  have : k % m < m := Nat.mod_lt _ hm
  simp [madeCells, hk, arr_size, getElem!_def, arr_at this]
theorem wpList_make (hgd : o.guard = none) (t e : TypeId) (x y : Operand) (ho : o.op = .makeSlice t x y) (n : Nat) (hx : a.eval x = .int .i64 n) (hy : a.eval y = .int .i64 n) (m : Nat) (z : Nat → Value) (bs : Nat)
    (hu : P.underlying t = some (.slice e)) (hz : (P.info? e).map (fun i => (i.size, i.zero, i.bytes)) = some (m, some (.agg (arr m z)), bs)) (hm : 0 < m) (hbs : bs ≤ 1000) (hn : n ≤ 1048576) (hM : Mem w L W)
    (h : ∀ b W', w.B ≤ b → Mem w ((b, n * m, fun k => z (k % m)) :: L) W' → wpList P ops Q rest (a.put o.dst (.slice (some ⟨b, 0, none⟩) n n)) W') : wpList P ops Q (o :: rest) a W := by
  obtain ⟨ie, hie, hq⟩ := Option.map_eq_some_iff.1 hz
  simp only [Prod.mk.injEq] at hq
  obtain ⟨q1, q2, q3⟩ := hq
  refine wpList_plain hgd fun K hK => ?_
  have hb : (ie.bytes : Int) * (n : Int) ≤ 281474976710656 := by
    rw [q3]
    have : bs * n ≤ 1000 * 1048576 := Nat.mul_le_mul hbs hn
    have h2 : ((bs * n : Nat) : Int) ≤ 1000 * 1048576 := by omega
    rw [Int.natCast_mul] at h2
    omega
  have hr := run_make (P := P) W t e ie (.agg (arr m z)) hu hie q2 .i64 .i64 n n (by omega) (Int.le_refl _) hb (by omega)
  simp only [Int.toNat_natCast, Value.cells, q1, made_arr m _ z hm] at hr
  unfold Oper.wp execOp
  simp only [ho, hx, hy, Sem.run_bind, Sem.run_pure, hr, Result.andThen_ok]
  exact hK _ _ (h _ _ hM.size (hM.alloc e (n * m) _))

/-- A block of a call that lets lie all that lay, beside those that are known. -/
theorem Mem.fresh' {b0 : Base} {L : Blocks} {X X' : World} {b n : Nat} {f : Nat → Value} (hM : Mem b0 L X) (hb : Below X.heap.size X X') (ha : At X' b n f) (hge : X.heap.size ≤ b) : Mem b0 (L ++ [(b, n, f)]) X' :=
  (hM.call hb).old ha (fun i p h e => by
    have := (hM.ats i p.1 p.2.1 p.2.2 h).lt
    omega)

/-! ### What lies in memory of old -/
def Lies (W : World) (b o n : Nat) (f : Nat → Value) : Prop := ∀ k, k < n → W.cell? ⟨b, o + k, none⟩ = some (f k)
theorem Lies.below {w W : World} {b o n : Nat} {f : Nat → Value} (h : Lies w b o n f) (hb : Below w.heap.size w W) : Lies W b o n f := fun k hk => by
  have := h k hk
  rw [hb.cell (p := ⟨b, o + k, none⟩) (block_lt_of_cell this)]
  exact this
theorem wpList_getL (hgd : o.guard = none) (ty : TypeId) (x : Operand) (ho : o.op = .load ty x) (b off : Nat) (hx : a.eval x = .pointer (some ⟨b, off, none⟩)) (b0 n : Nat) {f : Nat → Value}
    (hL : Lies W b b0 n f) {m : Nat} (hT : RowT P ty m) (i : Nat) (hi : off = b0 + i) (hle : i + m ≤ n)
    (h : wpList P ops Q rest (a.put o.dst (.agg (arr m (fun k => f (i + k))))) W) : wpList P ops Q (o :: rest) a W := by
  obtain ⟨⟨d, hu, hd⟩, hm⟩ := hT
  subst hi
  have hr : W.rangeAt b (b0 + i) (arr m (fun k => f (i + k))).toList := fun j v hv => by
    rw [arr_toList] at hv
    have hj : j < m := by have := (List.getElem?_eq_some_iff.1 hv).1; simpa using this
    simp [hj] at hv
    rw [← hv, Nat.add_assoc]
    exact hL (i + j) (by omega)
  exact wpList_load_mid hgd ty x ho b (b0 + i) hx (arr m (fun k => f (i + k))).toList d hr hu hd (by rw [hm]; simp [arr_size]) (by simpa using h)

section
variable {H : Type} {enc : TypeId × Value → H} {w : World} {base : Nat} {spare : Nat → Bool} {held : Bool}
theorem trod_num {t : TypeId} {κ : IntKind} (ht : P.underlying t = some (.int κ)) {fuel : Nat} {cs : List Value} {x : DataW H × List MemPlace} (h : DataW.trod enc P w base spare held fuel t cs = some x) : ∃ n, cs = [.int κ n] ∧ κ.has n := by
  obtain ⟨n, h1, -, h2⟩ := DataW.trod_int ht h
  exact ⟨n, h1, by simpa [Lit.wf, IntKind.has] using h2⟩

/-- A list of elements of one cell, out of its reading. -/
def Arg1 (W : World) (v : Value) (n : Nat) (f : Nat → Value) : Prop :=
  (n = 0 ∧ v = .slice none 0 0) ∨ ∃ b o c, v = .slice (some ⟨b, o, none⟩) n c ∧ Lies W b o n f
theorem Arg1.below {w W : World} {v : Value} {n : Nat} {f : Nat → Value} (h : Arg1 w v n f) (hb : Below w.heap.size w W) : Arg1 W v n f := by
  rcases h with h | ⟨b, o, c, e, h⟩
  · exact .inl h
  · exact .inr ⟨b, o, c, e, h.below hb⟩
theorem spot_slice {t e : TypeId} (ht : P.underlying t = some (.slice e)) {b0 : Nat} {a : Addr} {l c : Nat} (h : Cell.okWide P w .any b0 t (.slice (some a) l c)) : a.spot = none := by
  simp only [Cell.okWide, Cell.ok, ht] at h
  exact h.2.2.2.1
theorem open_list1 {β : Type} {t e : TypeId} (ht : P.underlying t = some (.slice e)) (hc : P.cellsOf e = 1) (val : β → Value) (fits : β → Prop) (y0 : β)
    (hel : ∀ (fuel : Nat) (v : Value) (x : DataW H × List MemPlace), DataW.trod enc P w base spare held fuel e [v] = some x → ∃ y, v = val y ∧ fits y)
    {v : Value} {b0 fuel : Nat} {x : DataW H × List MemPlace} (hok : Cell.okWide P w .any b0 t v) (h : DataW.trod enc P w base spare held fuel t [v] = some x) :
    ∃ (n : Nat) (ys : Nat → β), n ≤ maxLen ∧ (∀ i, i < n → fits (ys i)) ∧ Arg1 w v n (fun i => val (ys i)) := by
  rcases open_slice1 ht hc h with ⟨h1, -⟩ | ⟨a, len, cap, m, n, V, D, Pl, hcs, hb, hl, hm, hmm, -, hi⟩
  · obtain rfl : v = .slice none 0 0 := by simpa using h1
    exact ⟨0, fun _ => y0, by decide, fun i hi => absurd hi (by omega), .inl ⟨rfl, rfl⟩⟩
  · obtain rfl : v = .slice (some a) len cap := by simpa using hcs
    have hs := spot_slice ht hok
    obtain ⟨ab, ao, asp⟩ := a
    simp only at hs
    subst hs
    have hlen : len ≤ m := by rw [hmm]; split <;> omega
    have key : ∀ i, ∃ y : β, i < len → (V i = val y ∧ fits y) := fun i => by
      by_cases hil : i < len
      · obtain ⟨y, h1, h2⟩ := hel n _ _ (hi i (by omega)).2
        exact ⟨y, fun _ => ⟨h1, h2⟩⟩
      · exact ⟨y0, fun h => absurd h hil⟩
    refine ⟨len, fun i => (key i).choose, by omega, fun i hil => ((key i).choose_spec hil).2, .inr ⟨ab, ao, cap, rfl, fun k hk => ?_⟩⟩
    have h1 := (hi k (by omega)).1
    have e2 : (⟨ab, ao, none⟩ : Addr).add k = ⟨ab, ao + k, none⟩ := by
      unfold Addr.add
      by_cases h0 : k = 0
      · simp [h0]
      · simp [h0]
    rw [e2, ((key k).choose_spec hk).1] at h1
    exact h1
theorem trod_str {t : TypeId} (ht : P.underlying t = some .string) (fuel : Nat) (v : Value) (x : DataW H × List MemPlace) (h : DataW.trod enc P w base spare held fuel t [v] = some x) : ∃ s : ByteArray, v = .string s ∧ s.size ≤ maxLen := by
  obtain ⟨s, h1, -, h2⟩ := DataW.trod_string ht h
  exact ⟨s, by simpa using h1, h2⟩
theorem trod_int1 {t : TypeId} {κ : IntKind} (ht : P.underlying t = some (.int κ)) (fuel : Nat) (v : Value) (x : DataW H × List MemPlace) (h : DataW.trod enc P w base spare held fuel t [v] = some x) : ∃ n, v = .int κ n ∧ κ.has n := by
  obtain ⟨n, h1, h2⟩ := trod_num ht h
  exact ⟨n, by simpa using h1, h2⟩
end

/-- What the size check gives: -1, or what is left. -/
def Left (n : Nat) (left : Int) (w : World) (e : Ending) (w' : World) : Prop := (∃ r : Int, e = .returned (.int .i64 r) ∧ (r = -1 ∨ (0 ≤ r ∧ r ≤ left ∧ (n : Int) ≤ left))) ∧ Below w.heap.size w w'
/-! ### Elements of one cell -/
theorem wpList_make1 (hgd : o.guard = none) (t e : TypeId) (x y : Operand) (ho : o.op = .makeSlice t x y) (n : Nat) (hx : a.eval x = .int .i64 n) (hy : a.eval y = .int .i64 n) (z : Value) (bs : Nat) (hzc : z.oneCell' = true)
    (hu : P.underlying t = some (.slice e)) (hz : (P.info? e).map (fun i => (i.size, i.zero, i.bytes)) = some (1, some z, bs)) (hbs : bs ≤ 1000) (hn : n ≤ 1048576) (hM : Mem w L W)
    (h : ∀ b W', w.B ≤ b → Mem w ((b, n, fun _ => z) :: L) W' → wpList P ops Q rest (a.put o.dst (.slice (some ⟨b, 0, none⟩) n n)) W') : wpList P ops Q (o :: rest) a W := by
  obtain ⟨ie, hie, hq⟩ := Option.map_eq_some_iff.1 hz
  simp only [Prod.mk.injEq] at hq
  obtain ⟨q1, q2, q3⟩ := hq
  refine wpList_plain hgd fun K hK => ?_
  have hb : (ie.bytes : Int) * (n : Int) ≤ 281474976710656 := by
    rw [q3]
    have : bs * n ≤ 1000 * 1048576 := Nat.mul_le_mul hbs hn
    have h2 : ((bs * n : Nat) : Int) ≤ 1000 * 1048576 := by omega
    rw [Int.natCast_mul] at h2
    omega
  have hr := run_make (P := P) W t e ie z hu hie q2 .i64 .i64 n n (by omega) (Int.le_refl _) hb (by omega)
  have hcl : z.cells = #[z] := by cases z <;> first | rfl | (simp [Value.oneCell'] at hzc)
  have hc : madeCells z.cells n = arr n (fun _ => z) := by
    refine arr_ext (by simp [madeCells]) (fun k hk => ?_)
    rw [hcl]
    simp [madeCells, hk, Nat.mod_one]
  simp only [Int.toNat_natCast, q1, Nat.mul_one, hc] at hr
  unfold Oper.wp execOp
  simp only [ho, hx, hy, Sem.run_bind, Sem.run_pure, hr, Result.andThen_ok]
  exact hK _ _ (h _ _ hM.size (hM.alloc e n _))
theorem run_load_cell {ty : TypeId} (hT : CellT P ty) {p : Addr} {v : Value} {W : World} (hc : W.cell? p = some v) : (loadVar ty p).run P W = .ok v W := by
  obtain ⟨⟨d, hu, hd⟩, _⟩ := hT
  have hagg : (isAgg ty).run P W = .ok false W := by
    unfold isAgg
    rw [Sem.run_bind, run_underlying hu W]
    cases d <;> simp_all [TypeDesc.isRow]
  have hl : (load p).run P W = .ok v W := by simp [load, Sem.run, hc]
  simp only [loadVar, Sem.run_bind, Result.andThen_ok, hagg, Bool.false_eq_true, if_false, hl]
theorem wpList_getL1 (hgd : o.guard = none) (ty : TypeId) (x : Operand) (ho : o.op = .load ty x) (b off : Nat) (hx : a.eval x = .pointer (some ⟨b, off, none⟩)) (b0 n : Nat) {f : Nat → Value}
    (hL : Lies W b b0 n f) (hT : CellT P ty) (i : Nat) (hi : off = b0 + i) (hle : i < n) (v : Value) (hv : f i = v)
    (h : wpList P ops Q rest (a.put o.dst v) W) : wpList P ops Q (o :: rest) a W := by
  refine wpList_plain hgd fun K hK => ?_
  have hc := hL i hle
  rw [← hi, hv] at hc
  unfold Oper.wp execOp
  simp only [ho, hx, Instr.loadAt, Instr.sureAddr, Sem.run_bind, Sem.run_pure, Result.andThen_ok, run_load_cell hT hc]
  exact hK _ _ h
/-- Some of the blocks, in another order: the i-th is that at f i. -/
theorem Mem.sub {b0 : Base} {L L' : Blocks} {X : World} (h : Mem b0 L X) (f : Nat → Nat) (hf : ∀ (i : Nat) (p : Nat × Nat × (Nat → Value)), L'[i]? = some p → L[f i]? = some p)
    (hinj : ((List.range L'.length).all fun i => (List.range L'.length).all fun j => i == j || f i != f j) = true) : Mem b0 L' X := by
  have inj : ∀ i j, i < L'.length → j < L'.length → i ≠ j → f i ≠ f j := fun i j hi hj hne => by
    have h1 := List.all_eq_true.1 (List.all_eq_true.1 hinj i (by simpa using hi)) j (by simpa using hj)
    rw [Bool.or_eq_true] at h1
    rcases h1 with h1 | h1
    · exact absurd (by simpa using h1) hne
    · simpa using h1
  exact ⟨h.good, fun i b n g hi => h.ats _ b n g (hf i _ hi), fun i j p q hi hj hne => h.apart _ _ p q (hf i p hi) (hf j q hj) (inj i j (List.getElem?_eq_some_iff.1 hi).1 (List.getElem?_eq_some_iff.1 hj).1 hne)⟩
/-- New blocks ahead of those that are known. -/
theorem Mem.front {b0 : Base} {L K : Blocks} {X X' : World} (hM : Mem b0 L X) (hb : Below X.heap.size X X') (hK : Mem X K X') (hge : ∀ (i : Nat) (p : Nat × Nat × (Nat → Value)), K[i]? = some p → X.heap.size ≤ p.1) : Mem b0 (K ++ L) X' := by
  have h2 := hM.call hb
  have key : ∀ (i : Nat) (p : Nat × Nat × (Nat → Value)), (K ++ L)[i]? = some p → (i < K.length ∧ K[i]? = some p) ∨ (K.length ≤ i ∧ L[i - K.length]? = some p) := fun i p hi => by
    by_cases hl : i < K.length
    · rw [List.getElem?_append_left hl] at hi; exact .inl ⟨hl, hi⟩
    · rw [List.getElem?_append_right (by omega)] at hi; exact .inr ⟨by omega, hi⟩
  have low : ∀ (i : Nat) (p : Nat × Nat × (Nat → Value)), L[i]? = some p → p.1 < X.heap.size := fun i p h => (hM.ats i p.1 p.2.1 p.2.2 h).lt
  refine ⟨h2.good, fun i b n f hi => ?_, fun i j p q hi hj hne => ?_⟩
  · rcases key i _ hi with ⟨_, h⟩ | ⟨_, h⟩
    · exact hK.ats i b n f h
    · exact h2.ats _ b n f h
  · rcases key i p hi with ⟨h1, h⟩ | ⟨h1, h⟩ <;> rcases key j q hj with ⟨g1, g⟩ | ⟨g1, g⟩
    · exact hK.apart i j p q h g hne
    · have := low _ q g; have := hge i p h; omega
    · have := low _ p h; have := hge j q g; omega
    · exact hM.apart _ _ p q h g (by omega)
/-- Three new blocks beside those that are known. -/
theorem Mem.fresh3 {b0 : Base} {L : Blocks} {X X' : World} {b c d n m k : Nat} {f g h : Nat → Value} (hM : Mem b0 L X) (hb : Below X.heap.size X X') (h3 : Mem X [(b, n, f), (c, m, g), (d, k, h)] X') (h1 : X.heap.size ≤ b) (h2 : X.heap.size ≤ c) (h4 : X.heap.size ≤ d) :
    Mem b0 (L ++ [(b, n, f), (c, m, g), (d, k, h)]) X' := by
  have e1 := hM.fresh' hb (h3.ats 0 _ _ _ rfl) h1
  have off : ∀ (y : Nat) (i : Nat) (p : Nat × Nat × (Nat → Value)), X.heap.size ≤ y → L[i]? = some p → p.1 ≠ y := fun y i p hy hp e => by
    have := (hM.ats i p.1 p.2.1 p.2.2 hp).lt
    omega
  have app : ∀ {M : Blocks} {q : Nat × Nat × (Nat → Value)} {i : Nat} {p : Nat × Nat × (Nat → Value)}, (M ++ [q])[i]? = some p → M[i]? = some p ∨ p = q := fun {M q i p} hp => by
    by_cases hl : i < M.length
    · rw [List.getElem?_append_left hl] at hp; exact .inl hp
    · rw [List.getElem?_append_right (by omega)] at hp
      cases hq : i - M.length with
      | zero => rw [hq] at hp; simp at hp; exact .inr hp.symm
      | succ j => rw [hq] at hp; simp at hp
  have e2 := e1.old (h3.ats 1 _ _ _ rfl) (fun i p hp => by
    rcases app hp with h | rfl
    · exact off c i p h2 h
    · exact h3.apart 0 1 _ _ rfl rfl (by omega))
  have e3 := e2.old (h3.ats 2 _ _ _ rfl) (fun i p hp => by
    rcases app hp with h | rfl
    · rcases app h with h | rfl
      · exact off d i p h4 h
      · exact h3.apart 0 2 _ _ rfl rfl (by omega)
    · exact h3.apart 1 2 _ _ rfl rfl (by omega))
  simpa using e3
end Go.Proofs.YtbmaljhnldepoaaDoor

/-
  A spot out of a reading.
-/
namespace Go.Proofs.YtbmaljhnldepoaaDoor
open Go Go.RowKit Go.BigFrame Go.ChangeShapes Go.WideShapes Go.Deep

section
variable {H : Type} {enc : TypeId × Value → H} {w : World} {base : Nat} {spare : Nat → Bool} {held : Bool}
set_option maxRecDepth 100000 in
theorem spot_cells {fuel : Nat} {cs : List Value} {x : DataW H × List MemPlace} (h : DataW.trod enc Tryd.prog w base spare held fuel 31 cs = some x) :
    ∃ p q : Int, cs = [.int .i8 p, .int .i8 q] ∧ (-128 ≤ p ∧ p ≤ 127) ∧ (-128 ≤ q ∧ q ≤ 127) := by
  obtain ⟨xs, n, -, -, hlen, hxl, hf⟩ := DataW.trod_struct Tryd.underlying31 h
  have e : Tryd.prog.cellsOf 31 = 2 := by kernel_rfl
  have e8 : Tryd.prog.cellsOf 22 = 1 := by kernel_rfl
  rw [e] at hlen
  match cs, hlen with
  | [c0, c1], _ =>
    match xs, hxl with
    | [y0, y1], _ =>
      have h0 := hf 0 _ rfl
      have h1 := hf 1 _ rfl
      change DataW.trod _ _ _ _ _ _ _ 22 ((List.drop 0 [c0, c1]).take (Tryd.prog.cellsOf 22)) = some y0 at h0
      change DataW.trod _ _ _ _ _ _ _ 22 ((List.drop 1 [c0, c1]).take (Tryd.prog.cellsOf 22)) = some y1 at h1
      rw [e8] at h0 h1
      obtain ⟨p, hp, bp⟩ := trod_num Tryd.underlying22 h0
      obtain ⟨q, hq, bq⟩ := trod_num Tryd.underlying22 h1
      simp at hp hq
      exact ⟨p, q, by rw [hp, hq], has_i8 bp, has_i8 bq⟩
end
end Go.Proofs.YtbmaljhnldepoaaDoor

/-
  laws.eqSpot on what is equal.
-/
namespace Go.Proofs.YtbmaljhnldepoaaDoor
open Go Go.RowKit Go.BigFrame

set_option maxHeartbeats 400000 in
theorem eqSpot_same (x y : Int) (w : World) :
    Calls Tryd.prog 58 #[.agg (arr 2 (sp x y)), .agg (arr 2 (sp x y))] w fun e w' => e = .returned (.bool true) ∧ Below w.heap.size w w' := by
  have hM := Mem.nil w
  have e0 : sp x y 0 = .int .i8 x := rfl
  have e1 : sp x y 1 = .int .i8 y := rfl
  have tk_b1 : True := trivial; have tk_b2 : True := trivial
  go_enter Tryd.func58, Tryd.ntmps58
  go_wp2_with (first | (have _t := tk_b1; refine wpList_box rfl _ _ rfl _ _ rfl hM ?_; intro b1 W' hb1 hM'; clear hM tk_b1; have hM := hM'; clear hM') | (have _t := tk_b2; refine wpList_box rfl _ _ rfl _ _ rfl hM ?_; intro b2 W' hb2 hM'; clear hM tk_b2; have hM := hM'; clear hM') | (refine wpList_get1 rfl _ _ rfl _ _ rfl hM 1 rfl (cellTab _ rfl) (by omega) _ rfl ?_) | (refine wpList_get1 rfl _ _ rfl _ _ rfl hM 0 rfl (cellTab _ rfl) (by omega) _ rfl ?_))
  go_ret
  exact ⟨rfl, hM.below⟩

end Go.Proofs.YtbmaljhnldepoaaDoor

/-
  Lists of spots: an argument opened to cells; laws.szSpotS, laws.toSpotS, laws.eqSpotS by contracts.
-/
namespace Go.Proofs.YtbmaljhnldepoaaDoor
open Go Go.RowKit Go.BigFrame Go.ChangeShapes Go.WideShapes Go.Deep

/-- A spot's numbers fit their kind. -/
def FitsS (p : Int × Int) : Prop := (-128 ≤ p.1 ∧ p.1 ≤ 127) ∧ (-128 ≤ p.2 ∧ p.2 ≤ 127)
def SpotArg (W : World) (v : Value) (n : Nat) (s : Nat → Int × Int) : Prop :=
  (n = 0 ∧ v = .slice none 0 0) ∨ ∃ b o c, v = .slice (some ⟨b, o, none⟩) n c ∧ Lies W b o (n * 2) (sps s)
theorem SpotArg.below {w W : World} {v : Value} {n : Nat} {s : Nat → Int × Int} (h : SpotArg w v n s) (hb : Below w.heap.size w W) : SpotArg W v n s := by
  rcases h with h | ⟨b, o, c, e, h⟩
  · exact .inl h
  · exact .inr ⟨b, o, c, e, h.below hb⟩
section
variable {H : Type} {enc : TypeId × Value → H} {w : World} {base : Nat} {spare : Nat → Bool} {held : Bool}
set_option maxRecDepth 100000 in
/-- A list of spots out of its type and its reading. -/
theorem open_spots {t : TypeId} (ht : Tryd.prog.underlying t = some (.slice 31)) {b0 : Nat} {v : Value} {d : DataW H} {p : List MemPlace} (hval : Value.okWide Tryd.prog w .any b0 t v) (h : DataW.Trod enc Tryd.prog w base spare held t v d p) :
    ∃ n s, n ≤ maxLen ∧ (∀ i, i < n → FitsS (s i)) ∧ SpotArg w v n s := by
  obtain ⟨fuel, h⟩ := h
  have e : Tryd.prog.cellsOf 31 = 2 := by kernel_rfl
  obtain ⟨sa, sl, sc, rfl⟩ := okWide_slice ht hval
  rcases open_slice ht h with ⟨h1, -⟩ | ⟨a, len, cap, m, n, D, Pl, hcs, hb, hl, hm, hmm, -, hi⟩
  · simp only [Value.cells] at h1
    obtain ⟨rfl, rfl, rfl⟩ : sa = none ∧ sl = 0 ∧ sc = 0 := by simpa using h1
    exact ⟨0, fun _ => (0, 0), by decide, fun i hi => absurd hi (by omega), .inl ⟨rfl, rfl⟩⟩
  · obtain ⟨e1, e2, e3⟩ : sa = some a ∧ sl = len ∧ sc = cap := by simpa [Value.cells] using hcs
    subst e1 e2 e3
    have hlen : sl ≤ m := by rw [hmm]; split <;> omega
    rw [e] at hi
    have key : ∀ i, ∃ g : Int × Int, i < sl → (FitsS g ∧ ∀ j, j < 2 → w.cell? (a.add (i * 2 + j)) = some (sp g.1 g.2 j)) := fun i => by
      by_cases hil : i < sl
      · obtain ⟨cs', hc, ht'⟩ := hi i (by omega)
        obtain ⟨p, q, hg, fp, fq⟩ := spot_cells ht'
        obtain ⟨-, -, hat⟩ := World.cells?_some hc
        refine ⟨(p, q), fun _ => ⟨⟨fp, fq⟩, fun j hj => ?_⟩⟩
        have := hat j hj
        rw [← Go.Deep.add_add] 
        rw [this, hg]
        rcases (show j = 0 ∨ j = 1 by omega) with rfl | rfl <;> rfl
      · exact ⟨(0, 0), fun h => absurd h hil⟩
    have hspot : a.spot = none := by
      unfold Value.okWide at hval
      rw [ht] at hval
      simp only [Cell.okWide, Cell.ok, ht] at hval
      exact hval.2.2.2.1
    obtain ⟨ab, ao, asp⟩ := a
    simp only at hspot
    subst hspot
    refine ⟨sl, fun i => (key i).choose, by omega, fun i hil => ((key i).choose_spec hil).1, .inr ⟨ab, ao, sc, rfl, fun k hk => ?_⟩⟩
    have hki := ((key (k / 2)).choose_spec (by omega)).2 (k % 2) (by omega)
    rw [show k / 2 * 2 + k % 2 = k by omega] at hki
    have e2 : (⟨ab, ao, none⟩ : Addr).add k = ⟨ab, ao + k, none⟩ := by
      unfold Addr.add
      by_cases h0 : k = 0
      · simp [h0]
      · simp [h0]
    rw [e2] at hki
    have hs := sps_row (fun i => (key i).choose) (k / 2) (k % 2) (by omega)
    rw [show k / 2 * 2 + k % 2 = k by omega] at hs
    rw [hki, hs]
end

theorem szSpotS_no (v : Value) (n : Nat) (s : Nat → Int × Int) (left : Int) (hn : n ≤ maxLen) (hl : left < n) (h0 : 0 ≤ left) (hl2 : left ≤ 1048576) (w : World) (h : SpotArg w v n s) :
    Calls Tryd.prog 34 #[v, .int .i64 left] w fun e w' => e = .returned (.int .i64 (-1)) ∧ Below w.heap.size w w' := by
  unfold maxLen at hn
  rcases h with ⟨rfl, rfl⟩ | ⟨b, o, c, rfl, h⟩
  · omega
  · have c1 : IntKind.i64.wrap (left - n) = left - n := IntWalk.i64_in _ (by omega)
    have d1 : decide (left - n < 0) = true := decide_eq_true (by omega)
    clear h
    go_enter Tryd.func34, Tryd.ntmps34
    go_wp2
    go_ret
    exact ⟨rfl, Below.refl _ _⟩
theorem szSpotS_yes (v : Value) (n : Nat) (s : Nat → Int × Int) (left : Int) (hl : (n : Int) ≤ left) (hl2 : left ≤ 1048576) (w : World) (h : SpotArg w v n s) :
    Calls Tryd.prog 34 #[v, .int .i64 left] w fun e w' => e = .returned (.int .i64 (left - n)) ∧ Below w.heap.size w w' := by
  rcases h with ⟨rfl, rfl⟩ | ⟨b, o, c, rfl, h⟩
  · have c1 : IntKind.i64.wrap left = left := IntWalk.i64_in _ (by omega)
    have d1 : decide (left < 0) = false := decide_eq_false (by omega)
    go_enter Tryd.func34, Tryd.ntmps34
    go_wp2
    go_ret
    exact ⟨by simp, Below.refl _ _⟩
  · have c1 : IntKind.i64.wrap (left - n) = left - n := IntWalk.i64_in _ (by omega)
    have d1 : decide (left - n < 0) = false := decide_eq_false (by omega)
    clear h
    go_enter Tryd.func34, Tryd.ntmps34
    go_wp2
    go_ret
    exact ⟨rfl, Below.refl _ _⟩

/-- A new list of spots. -/
def GivenS (n : Nat) (s : Nat → Int × Int) (w : World) (e : Ending) (w' : World) : Prop := ∃ b, e = .returned (.slice (some ⟨b, 0, none⟩) n n) ∧ w.heap.size ≤ b ∧ At w' b (n * 2) (sps s) ∧ Below w.heap.size w w'
set_option maxRecDepth 100000 in
set_option maxHeartbeats 1000000 in
theorem toSpotS_any (v : Value) (n : Nat) (s : Nat → Int × Int) (hn : n ≤ 1048576) (w : World) (h : SpotArg w v n s) : Calls Tryd.prog 36 #[v] w (GivenS n s w) := by
  have hM := Mem.nil w
  rcases h with ⟨rfl, rfl⟩ | ⟨b, o, c, rfl, hL⟩
  · have tk_b1 : True := trivial
    go_enter Tryd.func36, Tryd.ntmps36
    go_wp2_with (first | (have _t := tk_b1; refine wpList_make rfl _ _ _ _ rfl 0 rfl rfl 2 (fun _ => .int .i8 0) 2 Tryd.underlying32 spot_infoB (by omega) (by omega) (by omega) hM ?_; intro b1 W' hb1 hM'; clear hM tk_b1; have hM := hM'; clear hM'))
    refine wp_loop_rounds 1 ?_
    rw [rounds_succ]
    go_wp2
    go_ret
    exact ⟨b1, rfl, hb1, (hM.ats 0 _ _ _ rfl).congr (fun k hk => by omega), hM.below⟩
  · have HL := Lib.hid hL
    clear hL
    have tk_b1 : True := trivial
    go_enter Tryd.func36, Tryd.ntmps36
    go_wp2_with (first | (have _t := tk_b1; refine wpList_make rfl _ _ _ _ rfl n rfl rfl 2 (fun _ => .int .i8 0) 2 Tryd.underlying32 spot_infoB (by omega) (by omega) hn hM ?_; intro b1 W' hb1 hM'; clear hM tk_b1; have hM := hM'; clear hM'))
    go_loopw [4] (fun i wr => ∃ k : Nat, k ≤ n ∧ i = .int .i64 k ∧ ∃ g, Hid (∀ j, j < k * 2 → g j = sps s j) ∧ Mem w [(b1, n * 2, g)] wr) (fun i _ => n - (intOf i).toNat)
    case atStart => exact ⟨0, by omega, rfl, _, Lib.hid (fun j hj => absurd hj (by omega)), hM⟩
    case round =>
      clear hM
      obtain ⟨k, hk, rfl, g, hg, hM⟩ := hrel
      by_cases hlt : k < n
      · go_wp2_with (first | (refine wpList_getL rfl _ _ rfl _ _ rfl _ _ (HL.out.below hM.below) (rowTab _ _ rfl) (k * 2) rfl (by omega) ?_) | (go_at_call 17; refine (toSpot_any _ (fun _ => rfl) _).mono ?_; rintro e W' ⟨rfl, hb'⟩; have hM' := hM.call hb'; clear hM hb'; have hM := hM'; clear hM') | (refine wpList_lay rfl _ _ _ rfl _ _ rfl _ _ rfl hM 0 rfl (by assumption) (rowTab _ _ rfl) (by omega) ?_ ?_; (first | (intro _ _; rfl) | (intro k _; exact h1 _) | (intro k _; simp only [lay, upd]; (repeat' split) <;> first | exact h1 _ | rfl)); intro W' hM'; clear hM; have hM := hM'; clear hM'; simp only [List.set] at hM))
        go_roundw
        case rel => exact ⟨k + 1, by omega, by go_num, _, Lib.hid (fun j hj => by
          by_cases e : k * 2 ≤ j
          · simp only [lay]
            rw [if_pos ⟨e, by omega⟩, show k * 2 + (j - k * 2) = j by omega]
          · simp only [lay]
            rw [if_neg (by omega)]
            exact hg.out j (by omega)), hM⟩
        case measure => simp [intOf]; omega
      · obtain rfl : k = n := by omega
        go_wp2
        go_ret
        exact ⟨b1, rfl, hb1, (hM.ats 0 _ _ _ rfl).congr hg.out, hM.below⟩

set_option maxRecDepth 100000 in
set_option maxHeartbeats 1000000 in
/-- eqSpotS of two lists that hold the same. -/
theorem eqSpotS_same (b b' n c c' : Nat) (s : Nat → Int × Int) (hn : n ≤ maxLen) (w : World) (hA : At w b (n * 2) (sps s)) (hA' : At w b' (n * 2) (sps s)) (hne : b ≠ b') :
    Calls Tryd.prog 19 #[.slice (some ⟨b, 0, none⟩) n c, .slice (some ⟨b', 0, none⟩) n c'] w fun e w' => e = .returned (.bool true) ∧ Below w.heap.size w w' := by
  have hM : Mem w [(b, n * 2, sps s), (b', n * 2, sps s)] w := ((Mem.nil w).old hA (fun i p h => by simp at h)).old hA' (fun i p h => by
    match i, h with
    | 0, h => simp at h; rw [← h]; exact hne
    | _ + 1, h => simp at h)
  unfold maxLen at hn
  clear hA hA'
  go_enter Tryd.func19, Tryd.ntmps19
  go_wp2
  go_loopw [5] (fun i wr => ∃ k : Nat, k ≤ n ∧ i = .int .i64 k ∧ Mem w [(b, n * 2, sps s), (b', n * 2, sps s)] wr) (fun i _ => n - (intOf i).toNat)
  case atStart => exact ⟨0, by omega, rfl, hM⟩
  case round =>
    clear hM
    obtain ⟨k, hk, rfl, hM⟩ := hrel
    by_cases hlt : k < n
    · have l2 : (k : Int) < n := by omega
      have er : arr 2 (fun j => sps s (k * 2 + j)) = arr 2 (sp (s k).1 (s k).2) := arr_congr fun j hj => sps_row s k j hj
      go_wp2
      ((try simp only [Act.put, List.setIfInBounds_toArray, List.set_cons_succ, List.set_cons_zero]); refine wp_region_mem (by kernel_rfl) (by kernel_rfl) hM ?_; clear hM; (repeat (first | go_big_quiet_skip | (go_big_quiet_want; first | (refine quiet_get _ _ rfl _ _ rfl 1 rfl (rowTab _ _ rfl) (by omega) ?_; (simp only [er]); (simp only [Act.put, List.setIfInBounds_toArray, List.set_cons_succ, List.set_cons_zero]); go_big_quiet_on) | (refine quiet_get _ _ rfl _ _ rfl 0 rfl (rowTab _ _ rfl) (by omega) ?_; (simp only [er]); (simp only [Act.put, List.setIfInBounds_toArray, List.set_cons_succ, List.set_cons_zero]); go_big_quiet_on) | (refine quiet_call ?_; apply Exists.intro; apply Exists.intro; apply Exists.intro; refine ⟨fun W => ?_, fun W hM => ?_, ?_⟩; (go_simp; exact ⟨rfl, rfl⟩); (exact eqSpot_same (s k).1 (s k).2 W); (simp only [Act.put, List.setIfInBounds_toArray, List.set_cons_succ, List.set_cons_zero]); go_big_quiet_on) | (refine quiet_val ?_; apply Exists.intro; refine ⟨fun W => ?_, ?_⟩; (go_simp; (try simp only [l2, if_true, Bool.false_eq_true, if_false]); rfl); (simp only [Act.put, List.setIfInBounds_toArray, List.set_cons_succ, List.set_cons_zero]); go_big_quiet_on)))); (with_reducible refine wpQuiet_nil ?_); intro W' hM)
      go_wp2
      go_roundw
      case rel => exact ⟨k + 1, by omega, by go_num, hM⟩
      case measure => simp [intOf]; omega
    · obtain rfl : k = n := by omega
      go_wp2
      go_ret
      exact ⟨rfl, hM.below⟩
end Go.Proofs.YtbmaljhnldepoaaDoor

/-
  laws.eqSpotS, laws.markSpotS, laws.heldSpotS over lists that hold room behind their end.
-/
namespace Go.Proofs.YtbmaljhnldepoaaDoor
open Go Go.RowKit Go.BigFrame Go.ChangeShapes Go.WideShapes Go.Deep

theorem eqSpotS_zero (a a' : Option Addr) (c c' : Nat) (w : World) : Calls Tryd.prog 19 #[.slice a 0 c, .slice a' 0 c'] w fun e w' => e = .returned (.bool true) ∧ Below w.heap.size w w' := by
  go_enter Tryd.func19, Tryd.ntmps19
  go_wp2
  refine wp_loop_rounds 1 ?_
  rw [rounds_succ]
  go_wp2
  go_ret
  exact ⟨rfl, Below.refl _ _⟩
theorem markSpotS_zero (a : Option Addr) (c : Nat) (k : Int) (w : World) : Calls Tryd.prog 20 #[.slice a 0 c, .int .i64 k] w fun e w' => e = .returned (.int .i64 k) ∧ Below w.heap.size w w' := by
  go_enter Tryd.func20, Tryd.ntmps20
  go_wp2
  refine wp_loop_rounds 1 ?_
  rw [rounds_succ]
  go_wp2
  go_ret
  exact ⟨rfl, Below.refl _ _⟩
theorem heldSpotS_zero (a : Option Addr) (c : Nat) (k : Int) (w : World) : Calls Tryd.prog 21 #[.slice a 0 c, .int .i64 k] w fun e w' => e = .returned (.int .i64 k) ∧ Below w.heap.size w w' := by
  go_enter Tryd.func21, Tryd.ntmps21
  go_wp2
  refine wp_loop_rounds 1 ?_
  rw [rounds_succ]
  go_wp2
  go_ret
  exact ⟨rfl, Below.refl _ _⟩

set_option maxRecDepth 100000 in
set_option maxHeartbeats 1000000 in
/-- eqSpotS of two lists that hold the same. -/
theorem eqSpotS_list (b b' n c c' N N' : Nat) (F F' : Nat → Value) (s : Nat → Int × Int) (hF : ∀ j, j < n * 2 → F j = sps s j) (hF' : ∀ j, j < n * 2 → F' j = sps s j) (hN : n * 2 ≤ N) (hN' : n * 2 ≤ N') (hn : n ≤ 1048576) (w : World) (hA : At w b N F) (hA' : At w b' N' F') (hne : b ≠ b') :
    Calls Tryd.prog 19 #[.slice (some ⟨b, 0, none⟩) n c, .slice (some ⟨b', 0, none⟩) n c'] w fun e w' => e = .returned (.bool true) ∧ Below w.heap.size w w' := by
  have hM : Mem w [(b, N, F), (b', N', F')] w := ((Mem.nil w).old hA (fun i p h => by simp at h)).old hA' (fun i p h => by
    match i, h with
    | 0, h => simp at h; rw [← h]; exact hne
    | _ + 1, h => simp at h)
  have Hf := Lib.hid hF
  have Hf' := Lib.hid hF'
  clear hA hA' hF hF'
  go_enter Tryd.func19, Tryd.ntmps19
  go_wp2
  go_loopw [5] (fun i wr => ∃ k : Nat, k ≤ n ∧ i = .int .i64 k ∧ Mem w [(b, N, F), (b', N', F')] wr) (fun i _ => n - (intOf i).toNat)
  case atStart => exact ⟨0, by omega, rfl, hM⟩
  case round =>
    clear hM
    obtain ⟨k, hk, rfl, hM⟩ := hrel
    by_cases hlt : k < n
    · have l2 : (k : Int) < n := by omega
      have er : arr 2 (fun j => F (k * 2 + j)) = arr 2 (sp (s k).1 (s k).2) := arr_congr fun j hj => by rw [Hf.out _ (by omega)]; exact sps_row s k j hj
      have er' : arr 2 (fun j => F' (k * 2 + j)) = arr 2 (sp (s k).1 (s k).2) := arr_congr fun j hj => by rw [Hf'.out _ (by omega)]; exact sps_row s k j hj
      go_wp2
      ((try simp only [Act.put, List.setIfInBounds_toArray, List.set_cons_succ, List.set_cons_zero]); refine wp_region_mem (by kernel_rfl) (by kernel_rfl) hM ?_; clear hM; (repeat (first | go_big_quiet_skip | (go_big_quiet_want; first | (refine quiet_get _ _ rfl _ _ rfl 1 rfl (rowTab _ _ rfl) (by omega) ?_; (simp only [er, er']); (simp only [Act.put, List.setIfInBounds_toArray, List.set_cons_succ, List.set_cons_zero]); go_big_quiet_on) | (refine quiet_get _ _ rfl _ _ rfl 0 rfl (rowTab _ _ rfl) (by omega) ?_; (simp only [er, er']); (simp only [Act.put, List.setIfInBounds_toArray, List.set_cons_succ, List.set_cons_zero]); go_big_quiet_on) | (refine quiet_call ?_; apply Exists.intro; apply Exists.intro; apply Exists.intro; refine ⟨fun W => ?_, fun W hM => ?_, ?_⟩; (go_simp; exact ⟨rfl, rfl⟩); (exact eqSpot_same (s k).1 (s k).2 W); (simp only [Act.put, List.setIfInBounds_toArray, List.set_cons_succ, List.set_cons_zero]); go_big_quiet_on) | (refine quiet_val ?_; apply Exists.intro; refine ⟨fun W => ?_, ?_⟩; (go_simp; (try simp only [l2, if_true, Bool.false_eq_true, if_false]); rfl); (simp only [Act.put, List.setIfInBounds_toArray, List.set_cons_succ, List.set_cons_zero]); go_big_quiet_on)))); (with_reducible refine wpQuiet_nil ?_); intro W' hM)
      go_wp2
      go_roundw
      case rel => exact ⟨k + 1, by omega, by go_num, hM⟩
      case measure => simp [intOf]; omega
    · obtain rfl : k = n := by omega
      go_wp2
      go_ret
      exact ⟨rfl, hM.below⟩

/-- The mark m, as a cell. -/
def mkV (m : Nat) : Value := .int .i8 (IntKind.i8.wrap (m : Int))

set_option maxRecDepth 100000 in
set_option maxHeartbeats 1000000 in
/-- markSpotS writes its marks into the list. -/
theorem markSpotS_list (b0 : Base) (K : Blocks) (b n c N k0 : Nat) (F : Nat → Value) (hN : n * 2 ≤ N) (hn : n ≤ 1048576) (hk0 : k0 ≤ 1048576) (hb : b0.B ≤ b) (w : World) (hM0 : Mem b0 ((b, N, F) :: K) w) :
    Calls Tryd.prog 20 #[.slice (some ⟨b, 0, none⟩) n c, .int .i64 k0] w fun e w' => e = .returned (.int .i64 ((k0 + n * 2 : Nat) : Int)) ∧ ∃ G, (∀ j, j < n * 2 → G j = mkV (k0 + j)) ∧ Mem b0 ((b, N, G) :: K) w' := by
  have hM := hM0
  clear hM0
  go_enter Tryd.func20, Tryd.ntmps20
  go_wp2
  go_loopw [1, 5] (fun t i wr => ∃ k : Nat, k ≤ n ∧ t = .int .i64 ((k0 + k * 2 : Nat) : Int) ∧ i = .int .i64 k ∧ ∃ G, Hid (∀ j, j < k * 2 → G j = mkV (k0 + j)) ∧ Mem b0 ((b, N, G) :: K) wr) (fun _ i _ => n - (intOf i).toNat)
  case atStart => exact ⟨0, by omega, rfl, rfl, F, Lib.hid (fun j hj => absurd hj (by omega)), hM⟩
  case round =>
    clear hM
    obtain ⟨k, hk, rfl, rfl, G, hG, hM⟩ := hrel
    by_cases hlt : k < n
    · have l2 : (k : Int) < n := by omega
      obtain ⟨m, hm⟩ : ∃ m : Nat, m = k0 + k * 2 := ⟨_, rfl⟩
      rw [← hm]
      have c1 : IntKind.i64.wrap ((m : Int) + 1) = ((m + 1 : Nat) : Int) := IntWalk.i64_in _ (by omega)
      have c2 : IntKind.i64.wrap (((m + 1 : Nat) : Int) + 1) = ((k0 + (k + 1) * 2 : Nat) : Int) := by
        rw [show ((m + 1 : Nat) : Int) + 1 = ((k0 + (k + 1) * 2 : Nat) : Int) by omega]; exact IntWalk.i64_in _ (by omega)
      have c3 : wrap64 ((m : Int) + 1 + 1) = ((k0 + (k + 1) * 2 : Nat) : Int) := by unfold wrap64; omega
      have Hm := Lib.hid hm
      clear hm
      have tk_s1 : True := trivial; have tk_s2 : True := trivial
      go_wp2_with (first | (have _t := tk_s1; (refine wpList_set1 rfl _ _ _ rfl _ _ rfl _ rfl ?_ hM 0 rfl (by assumption) (cellTab _ rfl) (by omega) ?_; (first | rfl | exact h1 _); intro W' hM'; clear hM; have hM := hM'; clear hM'; simp [List.set, Act.eval] at hM); clear tk_s1) | (have _t := tk_s2; (refine wpList_set1 rfl _ _ _ rfl _ _ rfl _ rfl ?_ hM 0 rfl (by assumption) (cellTab _ rfl) (by omega) ?_; (first | rfl | exact h1 _); intro W' hM'; clear hM; have hM := hM'; clear hM'; simp [List.set, Act.eval] at hM); clear tk_s2))
      go_roundw
      case rel => exact ⟨k + 1, by omega, by first | exact congrArg (Value.int .i64) c3 | rfl, by go_num, _, Lib.hid (fun j hj => by
        simp only [upd]
        by_cases e1 : j = k * 2 + 1
        · rw [if_pos e1, e1]; simp only [mkV, Hm.out]; congr 2
        · by_cases e2 : j = k * 2
          · rw [if_neg e1, if_pos e2, e2]; simp only [mkV, Hm.out]
          · rw [if_neg e1, if_neg e2]; exact hG.out j (by omega)), hM⟩
      case measure => simp [intOf]; omega
    · obtain rfl : k = n := by omega
      go_wp2
      go_ret
      exact ⟨rfl, G, hG.out, hM⟩

set_option maxRecDepth 100000 in
set_option maxHeartbeats 1000000 in
/-- heldSpotS finds the marks. -/
theorem heldSpotS_list (b n c N k0 : Nat) (G : Nat → Value) (hN : n * 2 ≤ N) (hn : n ≤ 1048576) (hk0 : k0 ≤ 1048576) (hG : ∀ j, j < n * 2 → G j = mkV (k0 + j)) (w : World) (hA : At w b N G) :
    Calls Tryd.prog 21 #[.slice (some ⟨b, 0, none⟩) n c, .int .i64 k0] w fun e w' => e = .returned (.int .i64 ((k0 + n * 2 : Nat) : Int)) ∧ Below w.heap.size w w' := by
  have hM : Mem w [(b, N, G)] w := (Mem.nil w).old hA (fun i p h => by simp at h)
  have Hg := Lib.hid hG
  clear hA hG
  go_enter Tryd.func21, Tryd.ntmps21
  go_wp2
  go_loopw [1, 5] (fun t i wr => ∃ k : Nat, k ≤ n ∧ t = .int .i64 ((k0 + k * 2 : Nat) : Int) ∧ i = .int .i64 k ∧ Mem w [(b, N, G)] wr) (fun _ i _ => n - (intOf i).toNat)
  case atStart => exact ⟨0, by omega, rfl, rfl, hM⟩
  case round =>
    clear hM
    obtain ⟨k, hk, rfl, rfl, hM⟩ := hrel
    by_cases hlt : k < n
    · have l2 : (k : Int) < n := by omega
      obtain ⟨m, hm⟩ : ∃ m : Nat, m = k0 + k * 2 := ⟨_, rfl⟩
      have e0 : G (k * 2) = .int .i8 (IntKind.i8.wrap (m : Int)) := by rw [Hg.out _ (by omega), hm]; rfl
      have e1 : G (k * 2 + 1) = .int .i8 (IntKind.i8.wrap ((m + 1 : Nat) : Int)) := by rw [Hg.out _ (by omega), hm]; rfl
      rw [← hm]
      have c1 : IntKind.i64.wrap ((m : Int) + 1) = ((m + 1 : Nat) : Int) := IntWalk.i64_in _ (by omega)
      have c2 : IntKind.i64.wrap (((m + 1 : Nat) : Int) + 1) = ((k0 + (k + 1) * 2 : Nat) : Int) := by
        rw [show ((m + 1 : Nat) : Int) + 1 = ((k0 + (k + 1) * 2 : Nat) : Int) by omega]; exact IntWalk.i64_in _ (by omega)
      have c3 : wrap64 ((m : Int) + 1 + 1) = ((k0 + (k + 1) * 2 : Nat) : Int) := by unfold wrap64; omega
      have Hm := Lib.hid hm
      clear hm
      have tk_s1 : True := trivial; have tk_s2 : True := trivial
      go_wp2_with (first | (have _t := tk_s1; (refine wpList_get1 rfl _ _ rfl _ _ rfl hM 0 rfl (cellTab _ rfl) (by omega) _ e0 ?_); clear tk_s1) | (have _t := tk_s2; (refine wpList_get1 rfl _ _ rfl _ _ rfl hM 0 rfl (cellTab _ rfl) (by omega) _ e1 ?_); clear tk_s2))
      go_roundw
      case rel => exact ⟨k + 1, by omega, by first | exact congrArg (Value.int .i64) c3 | rfl, by go_num, hM⟩
      case measure => simp [intOf]; omega
    · obtain rfl : k = n := by omega
      go_wp2
      go_ret
      exact ⟨rfl, hM.below⟩
end Go.Proofs.YtbmaljhnldepoaaDoor

