/-
  Lists of goats: an argument opened to cells; make; laws.szGoatS, laws.toGoat, laws.toGoatS by contracts.
-/
import Derived.Test.YtdmhdljknfkajaaDoorGoatT
import Derived.Test.YtdmhdljknfkajaaDoorToSpot
import Derived.Lib.Hide
import Derived.Test.YtdmhdljknfkajaaDoorFrame
import Derived.Deep.Slices
import Derived.ChangeSame
import Derived.Laws.MakeOwn
namespace Go.Proofs.YtdmhdljknfkajaaDoor
open Go Go.RowKit Go.BigFrame Go.ChangeShapes Go.WideShapes Go.Deep

/-! ### make -/
variable {P : Program} {ops : Array Oper} {rest : List Oper} {o : Oper} {a : Act} {w : Base} {W : World} {Q : Exit → Act → World → Prop} {L : Blocks}
theorem made_arr (m N : Nat) (z : Nat → Value) (hm : 0 < m) : madeCells (arr m z) N = arr N (fun k => z (k % m)) := by
  refine arr_ext (by simp [madeCells]) (fun k hk => ?_)
  have : k % m < m := Nat.mod_lt _ hm
  simp [madeCells, hk, arr_size, getElem!_def, arr_at this]
theorem wpList_make (hgd : o.guard = none) (t e : TypeId) (x y : Operand) (ho : o.op = .makeSlice t x y) (n : Nat) (hx : a.eval x = .int .i64 n) (hy : a.eval y = .int .i64 n) (m : Nat) (z : Nat → Value) (bs : Nat)
    (hu : P.underlying t = some (.slice e)) (hz : (P.info? e).map (fun i => (i.size, i.zero, i.bytes)) = some (m, some (.agg (arr m z)), bs)) (hm : 0 < m) (hbs : bs ≤ 1000) (hn : n ≤ 1048576) (hM : Mem w L W)
    (h : ∀ b W', w.B ≤ b → Mem w ((b, n * m, fun k => z (k % m)) :: L) W' → wpList P ops Q rest (a.put o.dst (.slice (some ⟨b, 0, none⟩) n n)) W') : wpList P ops Q (o :: rest) a W := by
  obtain ⟨ie, hie, hq⟩ := Option.map_eq_some_iff.1 hz
  simp only [Prod.mk.injEq] at hq
  obtain ⟨q1, q2, q3⟩ := hq
  refine wpList_plain hgd fun K hK => ?_
  have hb : (ie.bytes : Int) * (n : Int) ≤ 281474976710656 := by
    rw [q3]
    have : bs * n ≤ 1000 * 1048576 := Nat.mul_le_mul hbs hn
    have h2 : ((bs * n : Nat) : Int) ≤ 1000 * 1048576 := by omega
    rw [Int.natCast_mul] at h2
    omega
  have hr := run_make (P := P) W t e ie (.agg (arr m z)) hu hie q2 .i64 .i64 n n (by omega) (Int.le_refl _) hb (by omega)
  simp only [Int.toNat_natCast, Value.cells, q1, made_arr m _ z hm] at hr
  unfold Oper.wp execOp
  simp only [ho, hx, hy, Sem.run_bind, Sem.run_pure, hr, Result.andThen_ok]
  exact hK _ _ (h _ _ hM.size (hM.alloc e (n * m) _))

/-- A block of a call that lets lie all that lay, beside those that are known. -/
theorem Mem.fresh' {b0 : Base} {L : Blocks} {X X' : World} {b n : Nat} {f : Nat → Value} (hM : Mem b0 L X) (hb : Below X.heap.size X X') (ha : At X' b n f) (hge : X.heap.size ≤ b) : Mem b0 (L ++ [(b, n, f)]) X' :=
  (hM.call hb).old ha (fun i p h e => by
    have := (hM.ats i p.1 p.2.1 p.2.2 h).lt
    omega)

/-! ### What lies in memory of old -/
def Lies (W : World) (b o n : Nat) (f : Nat → Value) : Prop := ∀ k, k < n → W.cell? ⟨b, o + k, none⟩ = some (f k)
theorem Lies.below {w W : World} {b o n : Nat} {f : Nat → Value} (h : Lies w b o n f) (hb : Below w.heap.size w W) : Lies W b o n f := fun k hk => by
  have := h k hk
  rw [hb.cell (p := ⟨b, o + k, none⟩) (block_lt_of_cell this)]
  exact this
theorem wpList_getL (hgd : o.guard = none) (ty : TypeId) (x : Operand) (ho : o.op = .load ty x) (b off : Nat) (hx : a.eval x = .pointer (some ⟨b, off, none⟩)) (b0 n : Nat) {f : Nat → Value}
    (hL : Lies W b b0 n f) {m : Nat} (hT : RowT P ty m) (i : Nat) (hi : off = b0 + i) (hle : i + m ≤ n)
    (h : wpList P ops Q rest (a.put o.dst (.agg (arr m (fun k => f (i + k))))) W) : wpList P ops Q (o :: rest) a W := by
  obtain ⟨⟨d, hu, hd⟩, hm⟩ := hT
  subst hi
  have hr : W.rangeAt b (b0 + i) (arr m (fun k => f (i + k))).toList := fun j v hv => by
    rw [arr_toList] at hv
    have hj : j < m := by have := (List.getElem?_eq_some_iff.1 hv).1; simpa using this
    simp [hj] at hv
    rw [← hv, Nat.add_assoc]
    exact hL (i + j) (by omega)
  exact wpList_load_mid hgd ty x ho b (b0 + i) hx (arr m (fun k => f (i + k))).toList d hr hu hd (by rw [hm]; simp [arr_size]) (by simpa using h)

/-! ### Goats as arguments -/
structure FitsG (h : Nat → Int) : Prop where
  lo : ∀ k, k < 4 → -128 ≤ h k ∧ h k ≤ 127
  mid : ∀ k, 4 ≤ k → k < 6 → -32768 ≤ h k ∧ h k ≤ 32767
  hi : -128 ≤ h 6 ∧ h 6 ≤ 127
def gts (hs : Nat → Nat → Int) : Nat → Value := fun k => gt (hs (k / 7)) (k % 7)
def GoatArg (W : World) (v : Value) (n : Nat) (hs : Nat → Nat → Int) : Prop :=
  (n = 0 ∧ v = .slice none 0 0) ∨ ∃ b o c, v = .slice (some ⟨b, o, none⟩) n c ∧ Lies W b o (n * 7) (gts hs)
theorem GoatArg.below {w W : World} {v : Value} {n : Nat} {hs : Nat → Nat → Int} (h : GoatArg w v n hs) (hb : Below w.heap.size w W) : GoatArg W v n hs := by
  rcases h with h | ⟨b, o, c, e, h⟩
  · exact .inl h
  · exact .inr ⟨b, o, c, e, h.below hb⟩

section
variable {H : Type} {enc : TypeId × Value → H} {w : World} {base : Nat} {spare : Nat → Bool} {held : Bool}
theorem trod_num {t : TypeId} {κ : IntKind} (ht : Tryd.prog.underlying t = some (.int κ)) {fuel : Nat} {cs : List Value} {x : DataW H × List MemPlace} (h : DataW.trod enc Tryd.prog w base spare held fuel t cs = some x) : ∃ n, cs = [.int κ n] ∧ κ.has n := by
  obtain ⟨n, h1, -, h2⟩ := DataW.trod_int ht h
  exact ⟨n, h1, by simpa [Lit.wf, IntKind.has] using h2⟩
set_option maxRecDepth 100000 in
theorem spot_cells {fuel : Nat} {cs : List Value} {x : DataW H × List MemPlace} (h : DataW.trod enc Tryd.prog w base spare held fuel 55 cs = some x) :
    ∃ p q : Int, cs = [.int .i8 p, .int .i8 q] ∧ (-128 ≤ p ∧ p ≤ 127) ∧ (-128 ≤ q ∧ q ≤ 127) := by
  obtain ⟨xs, n, -, -, hlen, hxl, hf⟩ := DataW.trod_struct Tryd.underlying55 h
  have e : Tryd.prog.cellsOf 55 = 2 := by kernel_rfl
  have e8 : Tryd.prog.cellsOf 22 = 1 := by kernel_rfl
  rw [e] at hlen
  match cs, hlen with
  | [c0, c1], _ =>
    match xs, hxl with
    | [y0, y1], _ =>
      have h0 := hf 0 _ rfl
      have h1 := hf 1 _ rfl
      change DataW.trod _ _ _ _ _ _ _ 22 ((List.drop 0 [c0, c1]).take (Tryd.prog.cellsOf 22)) = some y0 at h0
      change DataW.trod _ _ _ _ _ _ _ 22 ((List.drop 1 [c0, c1]).take (Tryd.prog.cellsOf 22)) = some y1 at h1
      rw [e8] at h0 h1
      obtain ⟨p, hp, bp⟩ := trod_num Tryd.underlying22 h0
      obtain ⟨q, hq, bq⟩ := trod_num Tryd.underlying22 h1
      simp at hp hq
      exact ⟨p, q, by rw [hp, hq], has_i8 bp, has_i8 bq⟩
set_option maxRecDepth 100000 in
theorem goat_cells {fuel : Nat} {cs : List Value} {x : DataW H × List MemPlace} (h : DataW.trod enc Tryd.prog w base spare held fuel 57 cs = some x) :
    ∃ g : Nat → Int, cs = (List.range 7).map (gt g) ∧ FitsG g := by
  obtain ⟨xs, n, -, -, hlen, hxl, hf⟩ := DataW.trod_struct Tryd.underlying57 h
  have e : Tryd.prog.cellsOf 57 = 7 := by kernel_rfl
  have e2 : Tryd.prog.cellsOf 55 = 2 := by kernel_rfl
  have e8 : Tryd.prog.cellsOf 22 = 1 := by kernel_rfl
  have e16 : Tryd.prog.cellsOf 23 = 1 := by kernel_rfl
  rw [e] at hlen
  match cs, hlen with
  | [c0, c1, c2, c3, c4, c5, c6], _ =>
    match xs, hxl with
    | [y0, y1, y2, y3, y4], _ =>
      have h0 := hf 0 _ rfl
      have h1 := hf 1 _ rfl
      have h2 := hf 2 _ rfl
      have h3 := hf 3 _ rfl
      have h4 := hf 4 _ rfl
      change DataW.trod _ _ _ _ _ _ _ 55 ((List.drop 0 [c0, c1, c2, c3, c4, c5, c6]).take (Tryd.prog.cellsOf 55)) = some y0 at h0
      change DataW.trod _ _ _ _ _ _ _ 55 ((List.drop 2 [c0, c1, c2, c3, c4, c5, c6]).take (Tryd.prog.cellsOf 55)) = some y1 at h1
      change DataW.trod _ _ _ _ _ _ _ 23 ((List.drop 4 [c0, c1, c2, c3, c4, c5, c6]).take (Tryd.prog.cellsOf 23)) = some y2 at h2
      change DataW.trod _ _ _ _ _ _ _ 23 ((List.drop 5 [c0, c1, c2, c3, c4, c5, c6]).take (Tryd.prog.cellsOf 23)) = some y3 at h3
      change DataW.trod _ _ _ _ _ _ _ 22 ((List.drop 6 [c0, c1, c2, c3, c4, c5, c6]).take (Tryd.prog.cellsOf 22)) = some y4 at h4
      rw [e2] at h0 h1
      rw [e16] at h2 h3
      rw [e8] at h4
      obtain ⟨p0, p1, hp, b0, b1⟩ := spot_cells h0
      obtain ⟨p2, p3, hq, b2, b3⟩ := spot_cells h1
      obtain ⟨p4, h4', b4⟩ := trod_num Tryd.underlying23 h2
      obtain ⟨p5, h5', b5⟩ := trod_num Tryd.underlying23 h3
      obtain ⟨p6, h6', b6⟩ := trod_num Tryd.underlying22 h4
      simp at hp hq h4' h5' h6'
      refine ⟨fun k => match k with | 0 => p0 | 1 => p1 | 2 => p2 | 3 => p3 | 4 => p4 | 5 => p5 | _ => p6, ?_, ?_, ?_, ?_⟩
      · obtain ⟨rfl, rfl⟩ := hp
        obtain ⟨rfl, rfl⟩ := hq
        subst h4' h5' h6'
        rfl
      · intro k hk
        rcases (show k = 0 ∨ k = 1 ∨ k = 2 ∨ k = 3 by omega) with rfl | rfl | rfl | rfl
        · exact b0
        · exact b1
        · exact b2
        · exact b3
      · intro k hk hk'
        rcases (show k = 4 ∨ k = 5 by omega) with rfl | rfl
        · exact has_i16 b4
        · exact has_i16 b5
      · exact has_i8 b6

set_option maxRecDepth 100000 in
/-- A list of goats out of its type and its reading. -/
theorem open_goats {t : TypeId} (ht : Tryd.prog.underlying t = some (.slice 57)) {b0 : Nat} {v : Value} {d : DataW H} {p : List MemPlace} (hval : Value.okWide Tryd.prog w .any b0 t v) (h : DataW.Trod enc Tryd.prog w base spare held t v d p) :
    ∃ n hs, n ≤ maxLen ∧ (∀ i, i < n → FitsG (hs i)) ∧ GoatArg w v n hs := by
  obtain ⟨fuel, h⟩ := h
  have e : Tryd.prog.cellsOf 57 = 7 := by kernel_rfl
  obtain ⟨sa, sl, sc, rfl⟩ := okWide_slice ht hval
  rcases open_slice ht h with ⟨h1, -⟩ | ⟨a, len, cap, m, n, D, Pl, hcs, hb, hl, hm, hmm, -, hi⟩
  · simp only [Value.cells] at h1
    obtain ⟨rfl, rfl, rfl⟩ : sa = none ∧ sl = 0 ∧ sc = 0 := by simpa using h1
    exact ⟨0, fun _ _ => 0, by decide, fun i hi => absurd hi (by omega), .inl ⟨rfl, rfl⟩⟩
  · obtain ⟨e1, e2, e3⟩ : sa = some a ∧ sl = len ∧ sc = cap := by simpa [Value.cells] using hcs
    subst e1 e2 e3
    have hlen : sl ≤ m := by rw [hmm]; split <;> omega
    rw [e] at hi
    have key : ∀ i, ∃ g : Nat → Int, i < sl → (FitsG g ∧ ∀ j, j < 7 → w.cell? (a.add (i * 7 + j)) = some (gt g j)) := fun i => by
      by_cases hil : i < sl
      · obtain ⟨cs', hc, ht'⟩ := hi i (by omega)
        obtain ⟨g, hg, fg⟩ := goat_cells ht'
        obtain ⟨-, -, hat⟩ := World.cells?_some hc
        refine ⟨g, fun _ => ⟨fg, fun j hj => ?_⟩⟩
        have := hat j hj
        rw [← Go.Deep.add_add] 
        rw [this, hg]
        simp [hj]
      · exact ⟨fun _ => 0, fun h => absurd h hil⟩
    have hspot : a.spot = none := by
      unfold Value.okWide at hval
      rw [ht] at hval
      simp only [Cell.okWide, Cell.ok, ht] at hval
      exact hval.2.2.2.1
    obtain ⟨ab, ao, asp⟩ := a
    simp only at hspot
    subst hspot
    refine ⟨sl, fun i => (key i).choose, by omega, fun i hil => ((key i).choose_spec hil).1, .inr ⟨ab, ao, sc, rfl, fun k hk => ?_⟩⟩
    have hki := ((key (k / 7)).choose_spec (by omega)).2 (k % 7) (by omega)
    rw [show k / 7 * 7 + k % 7 = k by omega] at hki
    have e2 : (⟨ab, ao, none⟩ : Addr).add k = ⟨ab, ao + k, none⟩ := by
      unfold Addr.add
      by_cases h0 : k = 0
      · simp [h0]
      · simp [h0]
    rw [e2] at hki
    exact hki
end
end Go.Proofs.YtdmhdljknfkajaaDoor
