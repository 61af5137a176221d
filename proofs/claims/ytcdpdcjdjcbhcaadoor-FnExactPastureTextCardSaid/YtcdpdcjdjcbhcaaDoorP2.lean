/-
  Several texts in one: TextLay, TextM, ListC, Spec1, StringSC, TextC, OpenT.
-/
import Derived.Shelf.Strconv.Itoa4
import Derived.Shelf.Strings.OnBuilder
import Derived.Shelf.Strings.BuilderK
import Derived.Ground.NamesProg
import Derived.Test.YtcdpdcjdjcbhcaaDoorProg
import Derived.Lib.ItoaLen
import Derived.Lib.Join
import Derived.Laws.Concat
import Derived.Lib.Hide
import Derived.Test.YtcdpdcjdjcbhcaaDoorP1
import Derived.Deep.Slices
import Derived.ChangeSame
import Derived.Laws.MakeOwn
import Derived.WalkKit
import Derived.OwnWalk
import Derived.BigQuiet
import Derived.Lib.AppendIntMem
import Derived.WalkSmall
import Derived.Stop.LaidErr
import Derived.Lib.LaidTab
/-
  strconv.FormatInt, strings.Join and strings.Builder: their numbers here.
-/
namespace Go.Proofs
open Go.Shelf
def Tryd.fmtLays_ren : Go.Shelf.Ren := ⟨fun | 173 => 52 | 246 => 100 | 283 => 122 | 284 => 123 | 285 => 124 | 286 => 125 | 129 => 138 | 317 => 137 | 318 => 139 | 319 => 140 | 320 => 141 | 337 => 151 | 338 => 152 | n => n, fun | 2 => 2 | 3 => 3 | 9 => 9 | 4 => 4 | 171 => 190 | 0 => 0 | 53 => 191 | 37 => 120 | 5 => 5 | 173 => 194 | 212 => 209 | 51 => 210 | 20 => 20 | 213 => 211 | 46 => 169 | 232 => 223 | 233 => 224 | n => n, fun | 17 => 2 | 18 => 5 | 19 => 6 | n => n⟩
theorem Tryd.fmtLays : Go.Proofs.LaysM.n173 Tryd.prog Tryd.fmtLays_ren := {
  mixed := by kernel_rfl
  f129 := Tryd.func138.trans (congrArg some (by kernel_rfl))
  f173 := Tryd.func52.trans (congrArg some (by kernel_rfl))
  f246 := Tryd.func100.trans (congrArg some (by kernel_rfl))
  f283 := Tryd.func122.trans (congrArg some (by kernel_rfl))
  f284 := Tryd.func123.trans (congrArg some (by kernel_rfl))
  f285 := Tryd.func124.trans (congrArg some (by kernel_rfl))
  f286 := Tryd.func125.trans (congrArg some (by kernel_rfl))
  f317 := Tryd.func137.trans (congrArg some (by kernel_rfl))
  f318 := Tryd.func139.trans (congrArg some (by kernel_rfl))
  f319 := Tryd.func140.trans (congrArg some (by kernel_rfl))
  f320 := Tryd.func141.trans (congrArg some (by kernel_rfl))
  f337 := Tryd.func151.trans (congrArg some (by kernel_rfl))
  f338 := Tryd.func152.trans (congrArg some (by kernel_rfl))
  t0 := Tryd.underlying0
  a0 := Tryd.isAgg0
  z0 := Tryd.sizeOf0
  v0 := Tryd.zeroValue0
  t2 := Tryd.underlying2
  a2 := Tryd.isAgg2
  z2 := Tryd.sizeOf2
  v2 := Tryd.zeroValue2
  t3 := Tryd.underlying3
  a3 := Tryd.isAgg3
  z3 := Tryd.sizeOf3
  v3 := Tryd.zeroValue3
  t4 := Tryd.underlying4
  a4 := Tryd.isAgg4
  z4 := Tryd.sizeOf4
  v4 := Tryd.zeroValue4
  t5 := Tryd.underlying5
  a5 := Tryd.isAgg5
  z5 := Tryd.sizeOf5
  v5 := Tryd.zeroValue5
  t9 := Tryd.underlying9
  a9 := Tryd.isAgg9
  z9 := Tryd.sizeOf9
  v9 := Tryd.zeroValue9
  t20 := Tryd.underlying20
  a20 := Tryd.isAgg20
  z20 := Tryd.sizeOf20
  v20 := Tryd.zeroValue20
  t37 := Tryd.underlying120
  a37 := Tryd.isAgg120
  z37 := Tryd.sizeOf120
  v37 := Tryd.zeroValue120
  t46 := Tryd.underlying169
  a46 := Tryd.isAgg169
  z46 := Tryd.sizeOf169
  v46 := Tryd.zeroValue169
  t51 := Tryd.underlying210
  a51 := Tryd.isAgg210
  z51 := Tryd.sizeOf210
  v51 := Tryd.zeroValue210
  t53 := Tryd.underlying191
  a53 := Tryd.isAgg191
  z53 := Tryd.sizeOf191
  v53 := Tryd.zeroValue191
  t171 := Tryd.underlying190
  a171 := Tryd.isAgg190
  z171 := Tryd.sizeOf190
  v171 := Tryd.zeroValue190
  t173 := Tryd.underlying194
  a173 := Tryd.isAgg194
  z173 := Tryd.sizeOf194
  v173 := Tryd.zeroValue194
  t212 := Tryd.underlying209
  a212 := Tryd.isAgg209
  z212 := Tryd.sizeOf209
  v212 := Tryd.zeroValue209
  t213 := Tryd.underlying211
  a213 := Tryd.isAgg211
  z213 := Tryd.sizeOf211
  t232 := Tryd.underlying223
  a232 := Tryd.isAgg223
  z232 := Tryd.sizeOf223
  v232 := Tryd.zeroValue223
  t233 := Tryd.underlying224
  a233 := Tryd.isAgg224
  z233 := Tryd.sizeOf224
  v233 := Tryd.zeroValue224
  g17 := by kernel_rfl
  g18 := by kernel_rfl
  g19 := by kernel_rfl
  i0 := by kernel_rfl
  i2 := by kernel_rfl
  i3 := by kernel_rfl
  i4 := by kernel_rfl
  i5 := by kernel_rfl
  i9 := by kernel_rfl
  i20 := by kernel_rfl
  i37 := by kernel_rfl
  i46 := by kernel_rfl
  i51 := by kernel_rfl
  i53 := by kernel_rfl
  i171 := by kernel_rfl
  i173 := by kernel_rfl
  i212 := by kernel_rfl
  i232 := by kernel_rfl
  i233 := by kernel_rfl
  m17 := by kernel_rfl
  m18 := by kernel_rfl
  m19 := by kernel_rfl }
def Tryd.joinLays_ren : Go.Shelf.Ren := ⟨fun | 156 => 46 | 165 => 96 | 166 => 70 | 169 => 73 | 240 => 106 | 241 => 121 | 276 => 126 | 277 => 136 | n => n, fun | 31 => 69 | 9 => 9 | 3 => 3 | 4 => 4 | 0 => 0 | 20 => 20 | 72 => 122 | 76 => 128 | 70 => 119 | 37 => 120 | 75 => 127 | 127 => 173 | 164 => 196 | 5 => 5 | 80 => 89 | n => n, fun | n => n⟩
theorem Tryd.joinLays : Go.Proofs.Lays.n156 Tryd.prog Tryd.joinLays_ren := {
  mixed := by kernel_rfl
  f156 := Tryd.func46.trans (congrArg some (by kernel_rfl))
  f165 := Tryd.func96.trans (congrArg some (by kernel_rfl))
  f166 := Tryd.func70.trans (congrArg some (by kernel_rfl))
  f169 := Tryd.func73.trans (congrArg some (by kernel_rfl))
  f240 := Tryd.func106.trans (congrArg some (by kernel_rfl))
  f241 := Tryd.func121.trans (congrArg some (by kernel_rfl))
  f276 := Tryd.func126.trans (congrArg some (by kernel_rfl))
  f277 := Tryd.func136.trans (congrArg some (by kernel_rfl))
  t0 := Tryd.underlying0
  a0 := Tryd.isAgg0
  z0 := Tryd.sizeOf0
  v0 := Tryd.zeroValue0
  t3 := Tryd.underlying3
  a3 := Tryd.isAgg3
  z3 := Tryd.sizeOf3
  v3 := Tryd.zeroValue3
  t4 := Tryd.underlying4
  a4 := Tryd.isAgg4
  z4 := Tryd.sizeOf4
  v4 := Tryd.zeroValue4
  t9 := Tryd.underlying9
  a9 := Tryd.isAgg9
  z9 := Tryd.sizeOf9
  v9 := Tryd.zeroValue9
  t20 := Tryd.underlying20
  a20 := Tryd.isAgg20
  z20 := Tryd.sizeOf20
  v20 := Tryd.zeroValue20
  t31 := Tryd.underlying69
  a31 := Tryd.isAgg69
  z31 := Tryd.sizeOf69
  v31 := Tryd.zeroValue69
  t37 := Tryd.underlying120
  a37 := Tryd.isAgg120
  z37 := Tryd.sizeOf120
  v37 := Tryd.zeroValue120
  t70 := Tryd.underlying119
  a70 := Tryd.isAgg119
  z70 := Tryd.sizeOf119
  v70 := Tryd.zeroValue119
  t72 := Tryd.underlying122
  a72 := Tryd.isAgg122
  z72 := Tryd.sizeOf122
  v72 := Tryd.zeroValue122
  t75 := Tryd.underlying127
  a75 := Tryd.isAgg127
  z75 := Tryd.sizeOf127
  v75 := Tryd.zeroValue127
  t76 := Tryd.underlying128
  a76 := Tryd.isAgg128
  z76 := Tryd.sizeOf128
  v76 := Tryd.zeroValue128
  t127 := Tryd.underlying173
  a127 := Tryd.isAgg173
  z127 := Tryd.sizeOf173
  v127 := Tryd.zeroValue173
  t164 := Tryd.underlying196
  a164 := Tryd.isAgg196
  z164 := Tryd.sizeOf196
  v164 := Tryd.zeroValue196 }
def Tryd.bstLays_ren : Go.Shelf.Ren := ⟨fun | 169 => 73 | n => n, fun | 70 => 119 | 9 => 9 | 0 => 0 | 72 => 122 | 37 => 120 | 127 => 173 | 3 => 3 | 5 => 5 | n => n, fun | n => n⟩
theorem Tryd.bstLays : Go.Proofs.Lays.n169 Tryd.prog Tryd.bstLays_ren := {
  mixed := by kernel_rfl
  f169 := Tryd.func73.trans (congrArg some (by kernel_rfl))
  t0 := Tryd.underlying0
  a0 := Tryd.isAgg0
  z0 := Tryd.sizeOf0
  v0 := Tryd.zeroValue0
  t3 := Tryd.underlying3
  a3 := Tryd.isAgg3
  z3 := Tryd.sizeOf3
  v3 := Tryd.zeroValue3
  t9 := Tryd.underlying9
  a9 := Tryd.isAgg9
  z9 := Tryd.sizeOf9
  v9 := Tryd.zeroValue9
  t37 := Tryd.underlying120
  a37 := Tryd.isAgg120
  z37 := Tryd.sizeOf120
  v37 := Tryd.zeroValue120
  t70 := Tryd.underlying119
  a70 := Tryd.isAgg119
  z70 := Tryd.sizeOf119
  v70 := Tryd.zeroValue119
  t72 := Tryd.underlying122
  a72 := Tryd.isAgg122
  z72 := Tryd.sizeOf122
  v72 := Tryd.zeroValue122
  t127 := Tryd.underlying173
  a127 := Tryd.isAgg173
  z127 := Tryd.sizeOf173
  v127 := Tryd.zeroValue173 }
end Go.Proofs

/-
  Texts: numbers, spots, words in a row.
-/
namespace Go.Proofs.YtcdpdcjdjcbhcaaDoor
open Go

/-- A string of these bytes. -/
def bs (l : List UInt8) : ByteArray := ⟨l.toArray⟩
theorem bs_size (l : List UInt8) : (bs l).size = l.length := by simp [bs, ByteArray.size]
theorem bs_append (a b : List UInt8) : bs a ++ bs b = bs (a ++ b) := ByteArray.mk_append_mk a b
theorem bs_data (l : List UInt8) : (bs l).data.toList = l := by simp [bs]
theorem cat_run {P : Program} (a b : List UInt8) (h : a.length + b.length ≤ 100000000) (W : World) : (Op.stringOp .add (bs a) (bs b)).run P W = .ok (.string (bs (a ++ b))) W := by
  rw [run_string_add_sum W _ _ (by rw [bs_size, bs_size]; omega), bs_append]

theorem ret_bs {l m : List UInt8} (h : l = m) : Ending.returned (.string (bs l)) = .returned (.string (bs m)) := by rw [h]

/-- A number's digits. -/
def numB (n : Int) : List UInt8 := Lib.decDigits n.toNat
theorem nDigits_le10 {u : Nat} (h : u < 10000000000) : Lib.nDigits u ≤ 10 := by
  have key : ∀ (k u : Nat), u < 10 ^ (k + 1) → Lib.nDigits u ≤ k + 1 := by
    intro k
    induction k with
    | zero => intro u h; rw [Lib.nDigits_small (by omega)]; omega
    | succ k ih =>
      intro u h
      by_cases h10 : u < 10
      · rw [Lib.nDigits_small h10]; omega
      · rw [Lib.nDigits_big h10]
        have := ih (u / 10) (by rw [Nat.div_lt_iff_lt_mul (by omega)]; rw [Nat.pow_succ] at h; omega)
        omega
  exact key 9 u h
theorem numB_len {n : Int} (h : n ≤ 9000000000) : (numB n).length ≤ 10 := by
  unfold numB
  rw [Lib.decDigits_length]
  exact nDigits_le10 (by omega)
/-- A spot's text. -/
def spotT (x y : Int) : List UInt8 := numB x ++ [44] ++ numB y
theorem spotT_len {x y : Int} (hx : x ≤ 9000000000) (hy : y ≤ 9000000000) : (spotT x y).length ≤ 21 := by
  have := numB_len hx
  have := numB_len hy
  simp [spotT]; omega

/-- The first n words, with a separator between them. -/
def joinT (sep : List UInt8) (f : Nat → List UInt8) (n : Nat) : List UInt8 := Lib.join ((List.range n).map f) sep
theorem joinT_zero (sep : List UInt8) (f : Nat → List UInt8) : joinT sep f 0 = [] := rfl
theorem joinT_one (sep : List UInt8) (f : Nat → List UInt8) : joinT sep f 1 = f 0 := by
  unfold joinT; exact Lib.join_one _ _
theorem join_snoc (sep y : List UInt8) : ∀ (xs : List (List UInt8)), xs ≠ [] → Lib.join (xs ++ [y]) sep = Lib.join xs sep ++ sep ++ y := by
  intro xs h
  cases xs with
  | nil => exact absurd rfl h
  | cons x r =>
    rw [List.cons_append, Lib.join_cons, Lib.join_cons]
    simp [Lib.joinTail, List.append_assoc]
theorem joinT_succ (sep : List UInt8) (f : Nat → List UInt8) {n : Nat} (h : 0 < n) : joinT sep f (n + 1) = joinT sep f n ++ sep ++ f n := by
  unfold joinT
  rw [List.range_succ, List.map_append, List.map_singleton]
  exact join_snoc sep _ _ (by cases n with | zero => omega | succ n => simp [List.range_succ])
theorem joinT_len {sep : List UInt8} {f : Nat → List UInt8} {m : Nat} : ∀ n : Nat, (∀ k, k < n → (f k).length ≤ m) → (joinT sep f n).length ≤ n * (m + sep.length)
  | 0, _ => by simp [joinT_zero]
  | n + 1, h => by
    have ih := joinT_len (sep := sep) n (fun k hk => h k (by omega))
    have hn := h n (by omega)
    by_cases h0 : n = 0
    · subst h0; rw [joinT_one]; omega
    · rw [joinT_succ sep f (by omega)]
      simp only [List.length_append]
      rw [Nat.succ_mul]; omega
end Go.Proofs.YtcdpdcjdjcbhcaaDoor

/-
  Lists as arguments: make; what lies in memory of old; lists of elements of one cell; a number out of a reading.
-/
namespace Go.Proofs.YtcdpdcjdjcbhcaaDoor
open Go Go.RowKit Go.BigFrame Go.ChangeShapes Go.WideShapes Go.Deep

/-! ### make -/
variable {P : Program} {ops : Array Oper} {rest : List Oper} {o : Oper} {a : Act} {w : Base} {W : World} {Q : Exit → Act → World → Prop} {L : Blocks}
theorem made_arr (m N : Nat) (z : Nat → Value) (hm : 0 < m) : madeCells (arr m z) N = arr N (fun k => z (k % m)) := by
  refine arr_ext (by simp [madeCells]) (fun k hk => ?_)
  have : k % m < m := Nat.mod_lt _ hm
  simp [madeCells, hk, arr_size, getElem!_def, arr_at this]
theorem wpList_make (hgd : o.guard = none) (t e : TypeId) (x y : Operand) (ho : o.op = .makeSlice t x y) (n : Nat) (hx : a.eval x = .int .i64 n) (hy : a.eval y = .int .i64 n) (m : Nat) (z : Nat → Value) (bs : Nat)
    (hu : P.underlying t = some (.slice e)) (hz : (P.info? e).map (fun i => (i.size, i.zero, i.bytes)) = some (m, some (.agg (arr m z)), bs)) (hm : 0 < m) (hbs : bs ≤ 1000) (hn : n ≤ 1048576) (hM : Mem w L W)
    (h : ∀ b W', w.B ≤ b → Mem w ((b, n * m, fun k => z (k % m)) :: L) W' → wpList P ops Q rest (a.put o.dst (.slice (some ⟨b, 0, none⟩) n n)) W') : wpList P ops Q (o :: rest) a W := by
  obtain ⟨ie, hie, hq⟩ := Option.map_eq_some_iff.1 hz
  simp only [Prod.mk.injEq] at hq
  obtain ⟨q1, q2, q3⟩ := hq
  refine wpList_plain hgd fun K hK => ?_
  have hb : (ie.bytes : Int) * (n : Int) ≤ 281474976710656 := by
    rw [q3]
    have : bs * n ≤ 1000 * 1048576 := Nat.mul_le_mul hbs hn
    have h2 : ((bs * n : Nat) : Int) ≤ 1000 * 1048576 := by omega
    rw [Int.natCast_mul] at h2
    omega
  have hr := run_make (P := P) W t e ie (.agg (arr m z)) hu hie q2 .i64 .i64 n n (by omega) (Int.le_refl _) hb (by omega)
  simp only [Int.toNat_natCast, Value.cells, q1, made_arr m _ z hm] at hr
  unfold Oper.wp execOp
  simp only [ho, hx, hy, Sem.run_bind, Sem.run_pure, hr, Result.andThen_ok]
  exact hK _ _ (h _ _ hM.size (hM.alloc e (n * m) _))

/-- A block of a call that lets lie all that lay, beside those that are known. -/
theorem Mem.fresh' {b0 : Base} {L : Blocks} {X X' : World} {b n : Nat} {f : Nat → Value} (hM : Mem b0 L X) (hb : Below X.heap.size X X') (ha : At X' b n f) (hge : X.heap.size ≤ b) : Mem b0 (L ++ [(b, n, f)]) X' :=
  (hM.call hb).old ha (fun i p h e => by
    have := (hM.ats i p.1 p.2.1 p.2.2 h).lt
    omega)

/-! ### What lies in memory of old -/
def Lies (W : World) (b o n : Nat) (f : Nat → Value) : Prop := ∀ k, k < n → W.cell? ⟨b, o + k, none⟩ = some (f k)
theorem Lies.below {w W : World} {b o n : Nat} {f : Nat → Value} (h : Lies w b o n f) (hb : Below w.heap.size w W) : Lies W b o n f := fun k hk => by
  have := h k hk
  rw [hb.cell (p := ⟨b, o + k, none⟩) (block_lt_of_cell this)]
  exact this
theorem wpList_getL (hgd : o.guard = none) (ty : TypeId) (x : Operand) (ho : o.op = .load ty x) (b off : Nat) (hx : a.eval x = .pointer (some ⟨b, off, none⟩)) (b0 n : Nat) {f : Nat → Value}
    (hL : Lies W b b0 n f) {m : Nat} (hT : RowT P ty m) (i : Nat) (hi : off = b0 + i) (hle : i + m ≤ n)
    (h : wpList P ops Q rest (a.put o.dst (.agg (arr m (fun k => f (i + k))))) W) : wpList P ops Q (o :: rest) a W := by
  obtain ⟨⟨d, hu, hd⟩, hm⟩ := hT
  subst hi
  have hr : W.rangeAt b (b0 + i) (arr m (fun k => f (i + k))).toList := fun j v hv => by
    rw [arr_toList] at hv
    have hj : j < m := by have := (List.getElem?_eq_some_iff.1 hv).1; simpa using this
    simp [hj] at hv
    rw [← hv, Nat.add_assoc]
    exact hL (i + j) (by omega)
  exact wpList_load_mid hgd ty x ho b (b0 + i) hx (arr m (fun k => f (i + k))).toList d hr hu hd (by rw [hm]; simp [arr_size]) (by simpa using h)

section
variable {H : Type} {enc : TypeId × Value → H} {w : World} {base : Nat} {spare : Nat → Bool} {held : Bool}
theorem trod_num {t : TypeId} {κ : IntKind} (ht : P.underlying t = some (.int κ)) {fuel : Nat} {cs : List Value} {x : DataW H × List MemPlace} (h : DataW.trod enc P w base spare held fuel t cs = some x) : ∃ n, cs = [.int κ n] ∧ κ.has n := by
  obtain ⟨n, h1, -, h2⟩ := DataW.trod_int ht h
  exact ⟨n, h1, by simpa [Lit.wf, IntKind.has] using h2⟩

/-- A list of elements of one cell, out of its reading. -/
def Arg1 (W : World) (v : Value) (n : Nat) (f : Nat → Value) : Prop :=
  (n = 0 ∧ v = .slice none 0 0) ∨ ∃ b o c, v = .slice (some ⟨b, o, none⟩) n c ∧ Lies W b o n f
theorem Arg1.below {w W : World} {v : Value} {n : Nat} {f : Nat → Value} (h : Arg1 w v n f) (hb : Below w.heap.size w W) : Arg1 W v n f := by
  rcases h with h | ⟨b, o, c, e, h⟩
  · exact .inl h
  · exact .inr ⟨b, o, c, e, h.below hb⟩
theorem spot_slice {t e : TypeId} (ht : P.underlying t = some (.slice e)) {b0 : Nat} {a : Addr} {l c : Nat} (h : Cell.okWide P w .any b0 t (.slice (some a) l c)) : a.spot = none := by
  simp only [Cell.okWide, Cell.ok, ht] at h
  exact h.2.2.2.1
theorem open_list1 {β : Type} {t e : TypeId} (ht : P.underlying t = some (.slice e)) (hc : P.cellsOf e = 1) (val : β → Value) (fits : β → Prop) (y0 : β)
    (hel : ∀ (fuel : Nat) (v : Value) (x : DataW H × List MemPlace), DataW.trod enc P w base spare held fuel e [v] = some x → ∃ y, v = val y ∧ fits y)
    {v : Value} {b0 fuel : Nat} {x : DataW H × List MemPlace} (hok : Cell.okWide P w .any b0 t v) (h : DataW.trod enc P w base spare held fuel t [v] = some x) :
    ∃ (n : Nat) (ys : Nat → β), n ≤ maxLen ∧ (∀ i, i < n → fits (ys i)) ∧ Arg1 w v n (fun i => val (ys i)) := by
  rcases open_slice1 ht hc h with ⟨h1, -⟩ | ⟨a, len, cap, m, n, V, D, Pl, hcs, hb, hl, hm, hmm, -, hi⟩
  · obtain rfl : v = .slice none 0 0 := by simpa using h1
    exact ⟨0, fun _ => y0, by decide, fun i hi => absurd hi (by omega), .inl ⟨rfl, rfl⟩⟩
  · obtain rfl : v = .slice (some a) len cap := by simpa using hcs
    have hs := spot_slice ht hok
    obtain ⟨ab, ao, asp⟩ := a
    simp only at hs
    subst hs
    have hlen : len ≤ m := by rw [hmm]; split <;> omega
    have key : ∀ i, ∃ y : β, i < len → (V i = val y ∧ fits y) := fun i => by
      by_cases hil : i < len
      · obtain ⟨y, h1, h2⟩ := hel n _ _ (hi i (by omega)).2
        exact ⟨y, fun _ => ⟨h1, h2⟩⟩
      · exact ⟨y0, fun h => absurd h hil⟩
    refine ⟨len, fun i => (key i).choose, by omega, fun i hil => ((key i).choose_spec hil).2, .inr ⟨ab, ao, cap, rfl, fun k hk => ?_⟩⟩
    have h1 := (hi k (by omega)).1
    have e2 : (⟨ab, ao, none⟩ : Addr).add k = ⟨ab, ao + k, none⟩ := by
      unfold Addr.add
      by_cases h0 : k = 0
      · simp [h0]
      · simp [h0]
    rw [e2, ((key k).choose_spec hk).1] at h1
    exact h1
theorem trod_str {t : TypeId} (ht : P.underlying t = some .string) (fuel : Nat) (v : Value) (x : DataW H × List MemPlace) (h : DataW.trod enc P w base spare held fuel t [v] = some x) : ∃ s : ByteArray, v = .string s ∧ s.size ≤ maxLen := by
  obtain ⟨s, h1, -, h2⟩ := DataW.trod_string ht h
  exact ⟨s, by simpa using h1, h2⟩
theorem trod_int1 {t : TypeId} {κ : IntKind} (ht : P.underlying t = some (.int κ)) (fuel : Nat) (v : Value) (x : DataW H × List MemPlace) (h : DataW.trod enc P w base spare held fuel t [v] = some x) : ∃ n, v = .int κ n ∧ κ.has n := by
  obtain ⟨n, h1, h2⟩ := trod_num ht h
  exact ⟨n, by simpa using h1, h2⟩
end

/-- What the size check gives: -1, or what is left. -/
def Left (n : Nat) (left : Int) (w : World) (e : Ending) (w' : World) : Prop := (∃ r : Int, e = .returned (.int .i64 r) ∧ (r = -1 ∨ (0 ≤ r ∧ r ≤ left ∧ (n : Int) ≤ left))) ∧ Below w.heap.size w w'
/-! ### Elements of one cell -/
theorem wpList_make1 (hgd : o.guard = none) (t e : TypeId) (x y : Operand) (ho : o.op = .makeSlice t x y) (n : Nat) (hx : a.eval x = .int .i64 n) (hy : a.eval y = .int .i64 n) (z : Value) (bs : Nat) (hzc : z.oneCell' = true)
    (hu : P.underlying t = some (.slice e)) (hz : (P.info? e).map (fun i => (i.size, i.zero, i.bytes)) = some (1, some z, bs)) (hbs : bs ≤ 1000) (hn : n ≤ 1048576) (hM : Mem w L W)
    (h : ∀ b W', w.B ≤ b → Mem w ((b, n, fun _ => z) :: L) W' → wpList P ops Q rest (a.put o.dst (.slice (some ⟨b, 0, none⟩) n n)) W') : wpList P ops Q (o :: rest) a W := by
  obtain ⟨ie, hie, hq⟩ := Option.map_eq_some_iff.1 hz
  simp only [Prod.mk.injEq] at hq
  obtain ⟨q1, q2, q3⟩ := hq
  refine wpList_plain hgd fun K hK => ?_
  have hb : (ie.bytes : Int) * (n : Int) ≤ 281474976710656 := by
    rw [q3]
    have : bs * n ≤ 1000 * 1048576 := Nat.mul_le_mul hbs hn
    have h2 : ((bs * n : Nat) : Int) ≤ 1000 * 1048576 := by omega
    rw [Int.natCast_mul] at h2
    omega
  have hr := run_make (P := P) W t e ie z hu hie q2 .i64 .i64 n n (by omega) (Int.le_refl _) hb (by omega)
  have hcl : z.cells = #[z] := by cases z <;> first | rfl | (simp [Value.oneCell'] at hzc)
  have hc : madeCells z.cells n = arr n (fun _ => z) := by
    refine arr_ext (by simp [madeCells]) (fun k hk => ?_)
    rw [hcl]
    simp [madeCells, hk, Nat.mod_one]
  simp only [Int.toNat_natCast, q1, Nat.mul_one, hc] at hr
  unfold Oper.wp execOp
  simp only [ho, hx, hy, Sem.run_bind, Sem.run_pure, hr, Result.andThen_ok]
  exact hK _ _ (h _ _ hM.size (hM.alloc e n _))
theorem run_load_cell {ty : TypeId} (hT : CellT P ty) {p : Addr} {v : Value} {W : World} (hc : W.cell? p = some v) : (loadVar ty p).run P W = .ok v W := by
  obtain ⟨⟨d, hu, hd⟩, _⟩ := hT
  have hagg : (isAgg ty).run P W = .ok false W := by
    unfold isAgg
    rw [Sem.run_bind, run_underlying hu W]
    cases d <;> simp_all [TypeDesc.isRow]
  have hl : (load p).run P W = .ok v W := by simp [load, Sem.run, hc]
  simp only [loadVar, Sem.run_bind, Result.andThen_ok, hagg, Bool.false_eq_true, if_false, hl]
theorem wpList_getL1 (hgd : o.guard = none) (ty : TypeId) (x : Operand) (ho : o.op = .load ty x) (b off : Nat) (hx : a.eval x = .pointer (some ⟨b, off, none⟩)) (b0 n : Nat) {f : Nat → Value}
    (hL : Lies W b b0 n f) (hT : CellT P ty) (i : Nat) (hi : off = b0 + i) (hle : i < n) (v : Value) (hv : f i = v)
    (h : wpList P ops Q rest (a.put o.dst v) W) : wpList P ops Q (o :: rest) a W := by
  refine wpList_plain hgd fun K hK => ?_
  have hc := hL i hle
  rw [← hi, hv] at hc
  unfold Oper.wp execOp
  simp only [ho, hx, Instr.loadAt, Instr.sureAddr, Sem.run_bind, Sem.run_pure, Result.andThen_ok, run_load_cell hT hc]
  exact hK _ _ h
/-- Some of the blocks, in another order: the i-th is that at f i. -/
theorem Mem.sub {b0 : Base} {L L' : Blocks} {X : World} (h : Mem b0 L X) (f : Nat → Nat) (hf : ∀ (i : Nat) (p : Nat × Nat × (Nat → Value)), L'[i]? = some p → L[f i]? = some p)
    (hinj : ((List.range L'.length).all fun i => (List.range L'.length).all fun j => i == j || f i != f j) = true) : Mem b0 L' X := by
  have inj : ∀ i j, i < L'.length → j < L'.length → i ≠ j → f i ≠ f j := fun i j hi hj hne => by
    have h1 := List.all_eq_true.1 (List.all_eq_true.1 hinj i (by simpa using hi)) j (by simpa using hj)
    rw [Bool.or_eq_true] at h1
    rcases h1 with h1 | h1
    · exact absurd (by simpa using h1) hne
    · simpa using h1
  exact ⟨h.good, fun i b n g hi => h.ats _ b n g (hf i _ hi), fun i j p q hi hj hne => h.apart _ _ p q (hf i p hi) (hf j q hj) (inj i j (List.getElem?_eq_some_iff.1 hi).1 (List.getElem?_eq_some_iff.1 hj).1 hne)⟩
/-- New blocks ahead of those that are known. -/
theorem Mem.front {b0 : Base} {L K : Blocks} {X X' : World} (hM : Mem b0 L X) (hb : Below X.heap.size X X') (hK : Mem X K X') (hge : ∀ (i : Nat) (p : Nat × Nat × (Nat → Value)), K[i]? = some p → X.heap.size ≤ p.1) : Mem b0 (K ++ L) X' := by
  have h2 := hM.call hb
  have key : ∀ (i : Nat) (p : Nat × Nat × (Nat → Value)), (K ++ L)[i]? = some p → (i < K.length ∧ K[i]? = some p) ∨ (K.length ≤ i ∧ L[i - K.length]? = some p) := fun i p hi => by
    by_cases hl : i < K.length
    · rw [List.getElem?_append_left hl] at hi; exact .inl ⟨hl, hi⟩
    · rw [List.getElem?_append_right (by omega)] at hi; exact .inr ⟨by omega, hi⟩
  have low : ∀ (i : Nat) (p : Nat × Nat × (Nat → Value)), L[i]? = some p → p.1 < X.heap.size := fun i p h => (hM.ats i p.1 p.2.1 p.2.2 h).lt
  refine ⟨h2.good, fun i b n f hi => ?_, fun i j p q hi hj hne => ?_⟩
  · rcases key i _ hi with ⟨_, h⟩ | ⟨_, h⟩
    · exact hK.ats i b n f h
    · exact h2.ats _ b n f h
  · rcases key i p hi with ⟨h1, h⟩ | ⟨h1, h⟩ <;> rcases key j q hj with ⟨g1, g⟩ | ⟨g1, g⟩
    · exact hK.apart i j p q h g hne
    · have := low _ q g; have := hge i p h; omega
    · have := low _ p h; have := hge j q g; omega
    · exact hM.apart _ _ p q h g (by omega)
/-- Three new blocks beside those that are known. -/
theorem Mem.fresh3 {b0 : Base} {L : Blocks} {X X' : World} {b c d n m k : Nat} {f g h : Nat → Value} (hM : Mem b0 L X) (hb : Below X.heap.size X X') (h3 : Mem X [(b, n, f), (c, m, g), (d, k, h)] X') (h1 : X.heap.size ≤ b) (h2 : X.heap.size ≤ c) (h4 : X.heap.size ≤ d) :
    Mem b0 (L ++ [(b, n, f), (c, m, g), (d, k, h)]) X' := by
  have e1 := hM.fresh' hb (h3.ats 0 _ _ _ rfl) h1
  have off : ∀ (y : Nat) (i : Nat) (p : Nat × Nat × (Nat → Value)), X.heap.size ≤ y → L[i]? = some p → p.1 ≠ y := fun y i p hy hp e => by
    have := (hM.ats i p.1 p.2.1 p.2.2 hp).lt
    omega
  have app : ∀ {M : Blocks} {q : Nat × Nat × (Nat → Value)} {i : Nat} {p : Nat × Nat × (Nat → Value)}, (M ++ [q])[i]? = some p → M[i]? = some p ∨ p = q := fun {M q i p} hp => by
    by_cases hl : i < M.length
    · rw [List.getElem?_append_left hl] at hp; exact .inl hp
    · rw [List.getElem?_append_right (by omega)] at hp
      cases hq : i - M.length with
      | zero => rw [hq] at hp; simp at hp; exact .inr hp.symm
      | succ j => rw [hq] at hp; simp at hp
  have e2 := e1.old (h3.ats 1 _ _ _ rfl) (fun i p hp => by
    rcases app hp with h | rfl
    · exact off c i p h2 h
    · exact h3.apart 0 1 _ _ rfl rfl (by omega))
  have e3 := e2.old (h3.ats 2 _ _ _ rfl) (fun i p hp => by
    rcases app hp with h | rfl
    · rcases app h with h | rfl
      · exact off d i p h4 h
      · exact h3.apart 0 2 _ _ rfl rfl (by omega)
    · exact h3.apart 1 2 _ _ rfl rfl (by omega))
  simpa using e3
end Go.Proofs.YtcdpdcjdjcbhcaaDoor

/-
  spec.l00In, l01Grass, l01Is, by contracts.
-/
namespace Go.Proofs.YtcdpdcjdjcbhcaaDoor
open Go Go.RowKit Go.BigFrame

/-- Is n from lo to hi? -/
def inB (lo hi n : Int) : Bool := decide (lo ≤ n ∧ n ≤ hi)
theorem inB_yes {lo hi n : Int} (h : lo ≤ n ∧ n ≤ hi) : inB lo hi n = true := decide_eq_true h
theorem inB_no {lo hi n : Int} (h : ¬ (lo ≤ n ∧ n ≤ hi)) : inB lo hi n = false := decide_eq_false h
theorem inB_true {lo hi n : Int} (h : inB lo hi n = true) : lo ≤ n ∧ n ≤ hi := of_decide_eq_true h
theorem ret_bool {a b : Bool} (h : a = b) : Ending.returned (.bool a) = .returned (.bool b) := by rw [h]

theorem l00In_any (n lo hi : Int) (w : World) :
    Calls Tryd.prog 93 #[.int .i64 n, .int .i64 lo, .int .i64 hi] w fun e w' => e = .returned (.bool (inB lo hi n)) ∧ Below w.heap.size w w' := by
  by_cases h1 : lo ≤ n
  · go_enter Tryd.func93, Tryd.ntmps93
    go_wp2
    go_ret
    exact ⟨ret_bool (by simp [inB, h1]), Below.refl _ _⟩
  · go_enter Tryd.func93, Tryd.ntmps93
    go_wp2
    go_ret
    exact ⟨ret_bool (inB_no (fun h => by omega)).symm, Below.refl _ _⟩
theorem l01Grass_any (n : Int) (w : World) :
    Calls Tryd.prog 98 #[.int .i64 n] w fun e w' => e = .returned (.bool (inB 0 1000 n)) ∧ Below w.heap.size w w' := by
  have hM := Mem.nil w
  go_enter Tryd.func98, Tryd.ntmps98
  go_wp2_with (go_at_call 93; refine (l00In_any _ _ _ _).mono ?_; rintro e W' ⟨rfl, hb'⟩; have hM' := hM.call hb'; clear hM hb'; have hM := hM'; clear hM')
  go_ret
  exact ⟨rfl, hM.below⟩

/-- Has a pasture such a cell? -/
def isB (g : Nat → Int) (x y : Int) : Bool := inB 0 (g 0 - 1) x && inB 0 (g 1 - 1) y

set_option maxHeartbeats 400000 in
theorem l01Is_any (g : Nat → Int) (hg : Fits g) (bp : Nat) (x y : Int) (hx : -128 ≤ x ∧ x ≤ 127) (hy : -128 ≤ y ∧ y ≤ 127) (w : World) (hA : At w bp 122 (pas g)) :
    Calls Tryd.prog 101 #[.pointer (some ⟨bp, 0, none⟩), .agg (arr 2 (sp x y))] w fun e w' => e = .returned (.bool (isB g x y)) ∧ Below w.heap.size w w' := by
  have hM : Mem w [(bp, 122, pas g)] w := (Mem.nil w).old hA (fun i p h => by simp at h)
  obtain ⟨hw, hh, -, -⟩ := hg
  have e0 : pas g 0 = .int .i8 (g 0) := rfl
  have e1 : pas g 1 = .int .i8 (g 1) := rfl
  have e2 : sp x y 0 = .int .i8 x := rfl
  have e3 : sp x y 1 = .int .i8 y := rfl
  have c0 : IntKind.i64.wrap (g 0) = g 0 := IntWalk.i64_in _ (by omega)
  have c1 : IntKind.i64.wrap (g 1) = g 1 := IntWalk.i64_in _ (by omega)
  have c2 : IntKind.i64.wrap (g 0 - 1) = g 0 - 1 := IntWalk.i64_in _ (by omega)
  have c3 : IntKind.i64.wrap (g 1 - 1) = g 1 - 1 := IntWalk.i64_in _ (by omega)
  have c4 : IntKind.i64.wrap x = x := IntWalk.i64_in _ (by omega)
  have c5 : IntKind.i64.wrap y = y := IntWalk.i64_in _ (by omega)
  have tk_b1 : True := trivial
  go_enter Tryd.func101, Tryd.ntmps101
  go_wp2_with (first | (have _t := tk_b1; refine wpList_box rfl _ _ rfl _ _ rfl hM ?_; intro b1 W' hb1 hM'; clear hM tk_b1; have hM := hM'; clear hM'))
  cases h1 : inB 0 (g 0 - 1) x
  all_goals
    ((try simp only [Act.put, List.setIfInBounds_toArray, List.set_cons_succ, List.set_cons_zero]); refine wp_region_mem (by kernel_rfl) (by kernel_rfl) hM ?_; clear hM; (repeat (first | go_big_quiet_skip | (go_big_quiet_want; first | (refine quiet_get1 _ _ rfl _ _ rfl 1 rfl (cellTab _ rfl) (by omega) _ rfl ?_; (simp only [Act.put, List.setIfInBounds_toArray, List.set_cons_succ, List.set_cons_zero]); go_big_quiet_on) | (refine quiet_get1 _ _ rfl _ _ rfl 0 rfl (cellTab _ rfl) (by omega) _ rfl ?_; (simp only [Act.put, List.setIfInBounds_toArray, List.set_cons_succ, List.set_cons_zero]); go_big_quiet_on) | (refine quiet_call ?_; apply Exists.intro; apply Exists.intro; apply Exists.intro; refine ⟨fun W => ?_, fun W hM => ?_, ?_⟩; (go_simp; exact ⟨rfl, rfl⟩); (exact l00In_any _ _ _ W); (simp only [h1]); (simp only [Act.put, List.setIfInBounds_toArray, List.set_cons_succ, List.set_cons_zero]); go_big_quiet_on) | (refine quiet_call ?_; apply Exists.intro; apply Exists.intro; apply Exists.intro; refine ⟨fun W => ?_, fun W hM => ?_, ?_⟩; (go_simp; exact ⟨rfl, rfl⟩); (exact l00In_any _ _ _ W); (simp only [Act.put, List.setIfInBounds_toArray, List.set_cons_succ, List.set_cons_zero]); go_big_quiet_on) | (refine quiet_val ?_; apply Exists.intro; refine ⟨fun W => ?_, ?_⟩; (go_simp; rfl); (simp only [Act.put, List.setIfInBounds_toArray, List.set_cons_succ, List.set_cons_zero]); go_big_quiet_on)))); (with_reducible refine wpQuiet_nil ?_); intro W' hM)
    go_wp2
    go_ret
    exact ⟨ret_bool (by simp [isB, h1]), hM.below⟩
end Go.Proofs.YtcdpdcjdjcbhcaaDoor

/-
  []string: laws.szStringS, toStringS, eqStringS and slices.Equal by contracts.
-/
namespace Go.Proofs.YtcdpdcjdjcbhcaaDoor
open Go Go.RowKit Go.BigFrame Go.ChangeShapes Go.WideShapes Go.Deep

def vStringS (ys : Nat → ByteArray) : Nat → Value := fun k => .string (ys k)
theorem cellStringS : CellT Tryd.prog 9 := ⟨⟨_, Tryd.underlying9, rfl⟩, by kernel_rfl⟩
theorem infoStringS : (Tryd.prog.info? 9).map (fun i => (i.size, i.zero, i.bytes)) = some (1, some (.string ⟨#[]⟩), 16) := by kernel_rfl
def fitsStringS (y : ByteArray) : Prop := y.size ≤ maxLen
section
variable {H : Type} {enc : TypeId × Value → H} {w : World} {base : Nat} {spare : Nat → Bool} {held : Bool}
set_option maxRecDepth 100000 in
theorem openStringS {v : Value} {b0 fuel : Nat} {x : DataW H × List MemPlace} (hok : Cell.okWide Tryd.prog w .any b0 69 v) (h : DataW.trod enc Tryd.prog w base spare held fuel 69 [v] = some x) :
    ∃ (n : Nat) (ys : Nat → ByteArray), n ≤ maxLen ∧ (∀ i, i < n → fitsStringS (ys i)) ∧ Arg1 w v n (vStringS ys) :=
  open_list1 Tryd.underlying69 (by kernel_rfl) (fun y => .string (y)) fitsStringS ⟨#[]⟩ (fun fuel v x h => trod_str Tryd.underlying9 fuel v x h) hok h
end

set_option maxRecDepth 100000 in
set_option maxHeartbeats 1000000 in
theorem szStringS_any (v : Value) (n : Nat) (ys : Nat → ByteArray) (left : Int) (hn : n ≤ maxLen) (hF : ∀ i, i < n → (ys i).size ≤ maxLen) (h0 : 0 ≤ left) (hl2 : left ≤ 1048576) (w : World) (h : Arg1 w v n (vStringS ys)) :
    Calls Tryd.prog 80 #[v, .int .i64 left] w (Left n left w) := by
  unfold maxLen at hn hF
  have HF := Lib.hid hF
  clear hF
  rcases h with ⟨rfl, rfl⟩ | ⟨b, o, c, rfl, h⟩
  · have c1 : IntKind.i64.wrap left = left := IntWalk.i64_in _ (by omega)
    have d1 : decide (left < 0) = false := decide_eq_false (by omega)
    go_enter Tryd.func80, Tryd.ntmps80
    go_wp2
    refine wp_loop_rounds 1 ?_
    rw [rounds_succ]
    go_wp2
    go_ret
    exact ⟨⟨left, rfl, .inr ⟨h0, by omega, by omega⟩⟩, Below.refl _ _⟩
  have HL := Lib.hid h
  clear h
  by_cases hl : left < n
  · have c1 : IntKind.i64.wrap (left - n) = left - n := IntWalk.i64_in _ (by omega)
    have d1 : decide (left - n < 0) = true := decide_eq_true (by omega)
    go_enter Tryd.func80, Tryd.ntmps80
    go_wp2
    go_ret
    exact ⟨⟨-1, rfl, .inl rfl⟩, Below.refl _ _⟩
  · have hM := Mem.nil w
    have c1 : IntKind.i64.wrap (left - n) = left - n := IntWalk.i64_in _ (by omega)
    have d1 : decide (left - n < 0) = false := decide_eq_false (by omega)
    go_enter Tryd.func80, Tryd.ntmps80
    go_wp2
    go_loopw [1, 5] (fun l i wr => ∃ (k : Nat) (r : Int), k ≤ n ∧ i = .int .i64 k ∧ l = .int .i64 r ∧ 0 ≤ r ∧ r ≤ left - n ∧ Mem w [] wr) (fun _ i _ => n - (intOf i).toNat)
    case atStart => exact ⟨0, left - n, by omega, rfl, rfl, by omega, by omega, hM⟩
    case round =>
      clear hM
      obtain ⟨k, r, hk, rfl, rfl, hr0, hr1, hM⟩ := hrel
      by_cases hlt : k < n
      · have l2 : (k : Int) < n := by omega
        have l3 : decide ((k : Int) < n) = true := decide_eq_true l2
        have hs := HF.out k hlt
        by_cases hq : r < (ys k).size
        · have c2 : IntKind.i64.wrap (r - (ys k).size) = r - (ys k).size := IntWalk.i64_in _ (by omega)
          have d2 : decide (r - ((ys k).size : Int) < 0) = true := decide_eq_true (by omega)
          go_wp2_with (first | (refine wpList_getL1 rfl _ _ rfl _ _ rfl _ _ (HL.out.below hM.below) cellStringS k rfl (by omega) (.string (ys k)) rfl ?_))
          go_ret
          exact ⟨⟨-1, rfl, .inl rfl⟩, hM.below⟩
        · have c2 : IntKind.i64.wrap (r - (ys k).size) = r - (ys k).size := IntWalk.i64_in _ (by omega)
          have d2 : decide (r - ((ys k).size : Int) < 0) = false := decide_eq_false (by omega)
          go_wp2_with (first | (refine wpList_getL1 rfl _ _ rfl _ _ rfl _ _ (HL.out.below hM.below) cellStringS k rfl (by omega) (.string (ys k)) rfl ?_))
          go_roundw
          case rel => exact ⟨k + 1, r - (ys k).size, by omega, by go_num, by go_num, by omega, by omega, hM⟩
          case measure => simp [intOf]; omega
      · obtain rfl : k = n := by omega
        go_wp2
        go_ret
        exact ⟨⟨r, rfl, .inr ⟨hr0, by omega, by omega⟩⟩, hM.below⟩


set_option maxRecDepth 100000 in
set_option maxHeartbeats 1000000 in
theorem toStringS_any (v : Value) (n : Nat) (ys : Nat → ByteArray) (hn : n ≤ 1048576) (w : World) (h : Arg1 w v n (vStringS ys)) : Calls Tryd.prog 85 #[v] w fun e w' => ∃ b, e = .returned (.slice (some ⟨b, 0, none⟩) n n) ∧ w.heap.size ≤ b ∧ At w' b n (vStringS ys) ∧ Below w.heap.size w w' := by
  have hM := Mem.nil w
  rcases h with ⟨rfl, rfl⟩ | ⟨b, o, c, rfl, hL⟩
  · have tk_b1 : True := trivial
    go_enter Tryd.func85, Tryd.ntmps85
    go_wp2_with (first | (have _t := tk_b1; refine wpList_make1 rfl _ _ _ _ rfl 0 rfl rfl (.string ⟨#[]⟩) 16 rfl Tryd.underlying69 infoStringS (by omega) (by omega) hM ?_; intro b1 W' hb1 hM'; clear hM tk_b1; have hM := hM'; clear hM'))
    refine wp_loop_rounds 1 ?_
    rw [rounds_succ]
    go_wp2
    go_ret
    exact ⟨b1, rfl, hb1, (hM.ats 0 _ _ _ rfl).congr (fun k hk => by omega), hM.below⟩
  · have HL := Lib.hid hL
    clear hL
    have tk_b1 : True := trivial
    go_enter Tryd.func85, Tryd.ntmps85
    go_wp2_with (first | (have _t := tk_b1; refine wpList_make1 rfl _ _ _ _ rfl n rfl rfl (.string ⟨#[]⟩) 16 rfl Tryd.underlying69 infoStringS (by omega) hn hM ?_; intro b1 W' hb1 hM'; clear hM tk_b1; have hM := hM'; clear hM'))
    go_loopw [4] (fun i wr => ∃ k : Nat, k ≤ n ∧ i = .int .i64 k ∧ ∃ g, Hid (∀ j, j < k → g j = vStringS ys j) ∧ Mem w [(b1, n, g)] wr) (fun i _ => n - (intOf i).toNat)
    case atStart => exact ⟨0, by omega, rfl, _, Lib.hid (fun j hj => absurd hj (by omega)), hM⟩
    case round =>
      clear hM
      obtain ⟨k, hk, rfl, g, hg, hM⟩ := hrel
      by_cases hlt : k < n
      · go_wp2_with (first | (refine wpList_getL1 rfl _ _ rfl _ _ rfl _ _ (HL.out.below hM.below) cellStringS k rfl (by omega) (.string (ys k)) rfl ?_) | (refine wpList_set1 rfl _ _ _ rfl _ _ rfl (.string (ys k)) rfl rfl hM 0 rfl (by assumption) cellStringS (by omega) ?_; intro W' hM'; clear hM; have hM := hM'; clear hM'; simp only [List.set] at hM))
        go_roundw
        case rel => exact ⟨k + 1, by omega, by go_num, _, Lib.hid (fun j hj => by
          simp only [upd, Nat.zero_add]
          by_cases e : j = k
          · rw [if_pos (by omega), e]; rfl
          · rw [if_neg (by omega)]; exact hg.out j (by omega)), hM⟩
        case measure => simp [intOf]; omega
      · obtain rfl : k = n := by omega
        go_wp2
        go_ret
        exact ⟨b1, rfl, hb1, (hM.ats 0 _ _ _ rfl).congr hg.out, hM.below⟩

/-! ### equal -/
def eqvStringS (a b : ByteArray) : Bool := a.toList == b.toList
def sameStringS (n n' : Nat) (ys ys' : Nat → ByteArray) : Bool := decide (n = n') && (List.range n).all fun i => eqvStringS (ys i) (ys' i)
theorem sameStringS_len {n n' : Nat} {ys ys' : Nat → ByteArray} (h : n ≠ n') : sameStringS n n' ys ys' = false := by simp [sameStringS, h]
theorem sameStringS_no {n i : Nat} {ys ys' : Nat → ByteArray} (hi : i < n) (h : eqvStringS (ys i) (ys' i) = false) : sameStringS n n ys ys' = false := by
  have : ((List.range n).all fun i => eqvStringS (ys i) (ys' i)) = false := by rw [List.all_eq_false]; exact ⟨i, by simpa using hi, by rw [h]; decide⟩
  simp [sameStringS, this]
theorem sameStringS_yes {n : Nat} {ys ys' : Nat → ByteArray} (h : ∀ i, i < n → eqvStringS (ys i) (ys' i) = true) : sameStringS n n ys ys' = true := by
  have : ((List.range n).all fun i => eqvStringS (ys i) (ys' i)) = true := by rw [List.all_eq_true]; intro i hi; exact h i (by simpa using hi)
  simp [sameStringS, this]
theorem eqvStringS_self (a : ByteArray) : eqvStringS a a = true := by simp [eqvStringS]
theorem sameStringS_self (n : Nat) (ys : Nat → ByteArray) : sameStringS n n ys ys = true := sameStringS_yes fun i _ => eqvStringS_self (ys i)
set_option maxRecDepth 100000 in
set_option maxHeartbeats 1000000 in
/-- laws.eqStringS -/
theorem eqStringS_any (b b' n n' c c' : Nat) (ys ys' : Nat → ByteArray) (hn : n ≤ maxLen) (hn' : n' ≤ maxLen) (w : World) (hA : At w b n (vStringS ys)) (hA' : At w b' n' (vStringS ys')) (hne : b ≠ b') :
    Calls Tryd.prog 90 #[.slice (some ⟨b, 0, none⟩) n c, .slice (some ⟨b', 0, none⟩) n' c'] w fun e w' => e = .returned (.bool (sameStringS n n' ys ys')) ∧ Below w.heap.size w w' := by
  have hM : Mem w [(b, n, vStringS ys), (b', n', vStringS ys')] w := ((Mem.nil w).old hA (fun i p h => by simp at h)).old hA' (fun i p h => by
    match i, h with
    | 0, h => simp at h; rw [← h]; exact hne
    | _ + 1, h => simp at h)
  unfold maxLen at hn hn'
  clear hA hA'
  by_cases hnn : n = n'
  · subst hnn
    go_enter Tryd.func90, Tryd.ntmps90
    go_wp2
    go_loopw [5] (fun i wr => ∃ k : Nat, k ≤ n ∧ i = .int .i64 k ∧ Hid (∀ j, j < k → eqvStringS (ys j) (ys' j) = true) ∧ Mem w [(b, n, vStringS ys), (b', n, vStringS ys')] wr) (fun i _ => n - (intOf i).toNat)
    case atStart => exact ⟨0, by omega, rfl, Lib.hid (fun j hj => absurd hj (by omega)), hM⟩
    case round =>
      clear hM
      obtain ⟨k, hk, rfl, hall, hM⟩ := hrel
      by_cases hlt : k < n
      · have l2 : (k : Int) < n := by omega
        have l3 : decide ((k : Int) < n) = true := decide_eq_true l2
        have c1 : vStringS ys k = .string (ys k) := rfl
        have c2 : vStringS ys' k = .string (ys' k) := rfl
        cases he : eqvStringS (ys k) (ys' k)
        · have He := Lib.hid he
          unfold eqvStringS at he
          go_wp2
          ((try simp only [Act.put, List.setIfInBounds_toArray, List.set_cons_succ, List.set_cons_zero]); refine wp_region_mem (by kernel_rfl) (by kernel_rfl) hM ?_; clear hM; (repeat (first | go_big_quiet_skip | (go_big_quiet_want; first | (refine quiet_get1 _ _ rfl _ _ rfl 1 rfl cellStringS (by omega) _ c2 ?_; (simp only [Act.put, List.setIfInBounds_toArray, List.set_cons_succ, List.set_cons_zero]); go_big_quiet_on) | (refine quiet_get1 _ _ rfl _ _ rfl 0 rfl cellStringS (by omega) _ c1 ?_; (simp only [Act.put, List.setIfInBounds_toArray, List.set_cons_succ, List.set_cons_zero]); go_big_quiet_on) | (refine quiet_val ?_; apply Exists.intro; refine ⟨fun W => ?_, ?_⟩; (go_simp; (try simp only [l2, l3, he, if_true, Bool.false_eq_true, if_false]); rfl); (simp only [Act.put, List.setIfInBounds_toArray, List.set_cons_succ, List.set_cons_zero]); go_big_quiet_on)))); (with_reducible refine wpQuiet_nil ?_); intro W' hM)
          go_wp2
          go_ret
          exact ⟨ret_bool (sameStringS_no hlt He.out).symm, hM.below⟩
        · have He := Lib.hid he
          unfold eqvStringS at he
          go_wp2
          ((try simp only [Act.put, List.setIfInBounds_toArray, List.set_cons_succ, List.set_cons_zero]); refine wp_region_mem (by kernel_rfl) (by kernel_rfl) hM ?_; clear hM; (repeat (first | go_big_quiet_skip | (go_big_quiet_want; first | (refine quiet_get1 _ _ rfl _ _ rfl 1 rfl cellStringS (by omega) _ c2 ?_; (simp only [Act.put, List.setIfInBounds_toArray, List.set_cons_succ, List.set_cons_zero]); go_big_quiet_on) | (refine quiet_get1 _ _ rfl _ _ rfl 0 rfl cellStringS (by omega) _ c1 ?_; (simp only [Act.put, List.setIfInBounds_toArray, List.set_cons_succ, List.set_cons_zero]); go_big_quiet_on) | (refine quiet_val ?_; apply Exists.intro; refine ⟨fun W => ?_, ?_⟩; (go_simp; (try simp only [l2, l3, he, if_true, Bool.false_eq_true, if_false]); rfl); (simp only [Act.put, List.setIfInBounds_toArray, List.set_cons_succ, List.set_cons_zero]); go_big_quiet_on)))); (with_reducible refine wpQuiet_nil ?_); intro W' hM)
          go_wp2
          go_roundw
          case rel => exact ⟨k + 1, by omega, by go_num, Lib.hid (fun j hj => by
            by_cases e : j = k
            · rw [e]; exact He.out
            · exact hall.out j (by omega)), hM⟩
          case measure => simp [intOf]; omega
      · obtain rfl : k = n := by omega
        go_wp2
        go_ret
        exact ⟨ret_bool (sameStringS_yes hall.out).symm, hM.below⟩
  · have hz : ¬ (n : Int) = n' := by omega
    have d1 : decide ((n : Int) = n') = false := decide_eq_false hz
    have Hs := Lib.hid (sameStringS_len (ys := ys) (ys' := ys') hnn)
    clear hnn
    go_enter Tryd.func90, Tryd.ntmps90
    go_wp2
    go_ret
    exact ⟨ret_bool Hs.out.symm, hM.below⟩

theorem eqStringS_same (b b' n c c' : Nat) (ys : Nat → ByteArray) (hn : n ≤ maxLen) (w : World) (hA : At w b n (vStringS ys)) (hA' : At w b' n (vStringS ys)) (hne : b ≠ b') :
    Calls Tryd.prog 90 #[.slice (some ⟨b, 0, none⟩) n c, .slice (some ⟨b', 0, none⟩) n c'] w fun e w' => e = .returned (.bool true) ∧ Below w.heap.size w w' := by
  have := eqStringS_any b b' n n c c' ys ys hn hn w hA hA' hne
  rwa [sameStringS_self] at this
end Go.Proofs.YtcdpdcjdjcbhcaaDoor

/-
  strconv.FormatInt, strings.Join by contracts.
-/
namespace Go.Proofs.YtcdpdcjdjcbhcaaDoor
open Go Go.RowKit Go.BigFrame Go.Shelf

/-- The table that FormatInt reads. -/
def TabP (W : World) : Prop := Lib.TabIs Tryd.prog W "internal/strconv.uint64pow10" .u64 Lib.pow10Tab
theorem tabP_g : Tryd.prog.globalNamed "internal/strconv.uint64pow10" = some 2 := by kernel_rfl
theorem TabP.lt {W : World} (h : TabP W) : 2 < W.heap.size := by
  have h := h
  unfold TabP Lib.TabIs World.var? at h
  simp only [tabP_g, Option.bind_some] at h
  by_cases hl : 2 < W.heap.size
  · exact hl
  · rw [Array.getElem?_eq_none (by omega)] at h; cases h
theorem TabP.below {W W' : World} (h : TabP W) (hb : Below W.heap.size W W') : TabP W' := var?_below hb tabP_g h.lt h

theorem fmt_any (n : Int) (h0 : 0 ≤ n) (h1 : n ≤ 9000000000) (w : World) (hT : TabP w) :
    Calls Tryd.prog 52 #[.int .i64 n, .int .i64 10] w fun e w' => e = .returned (.string (bs (numB n))) ∧ Below w.heap.size w w' := by
  refine (Any.strconv_FormatInt_10 Tryd.fmtLays n (by omega) (by omega) w hT).mono ?_
  rintro e w' ⟨rfl, k, os, rfl⟩
  exact ⟨by rw [show Lib.itoa n = numB n from by unfold Lib.itoa numB; rw [if_neg (by omega)]]; rfl, Lib.below_grow _ _ (Nat.le_refl _) k os⟩

theorem joinExtra : Builder.Extra Tryd.prog Tryd.joinLays_ren := { sizeBuilder := by kernel_rfl, liesBuilder := by kernel_rfl, t5 := Tryd.underlying5, a5 := Tryd.isAgg5, z5 := Tryd.sizeOf5, v5 := Tryd.zeroValue5, infoByte := by kernel_rfl, cellsByte := by kernel_rfl, sizeByte := by kernel_rfl, neB5 := by decide }

/-- The strings that f tells. -/
def strF (f : Nat → List UInt8) : Nat → Value := fun k => .string (bs (f k))
theorem join_none (a : Option Addr) (c : Nat) (sep : List UInt8) (w : World) :
    Calls Tryd.prog 46 #[.slice a 0 c, .string (bs sep)] w fun e w' => e = .returned (.string (bs [])) ∧ Below w.heap.size w w' := by
  refine (Any.strings_Join_none Tryd.joinLays joinExtra a c (bs sep) w).mono ?_
  rintro e w' ⟨rfl, rfl⟩
  exact ⟨rfl, Below.refl _ _⟩
theorem join_any (b n N c : Nat) (f : Nat → List UInt8) (F : Nat → Value) (sep : List UInt8) (m : Nat) (hf : ∀ k, k < n → (f k).length ≤ m) (hm : n * (m + sep.length) ≤ 100000000) (hn : n ≤ 1048576) (hnN : n ≤ N) (hF : ∀ k, k < n → F k = strF f k) (hc : n ≤ c) (w : World) (hA : At w b N F) :
    Calls Tryd.prog 46 #[.slice (some ⟨b, 0, none⟩) n c, .string (bs sep)] w fun e w' => e = .returned (.string (bs (joinT sep f n))) ∧ Below w.heap.size w w' := by
  have hl : ((List.range n).map fun k => bs (f k)).length = n := by simp
  have hmap : (((List.range n).map fun k => bs (f k)).map (·.data.toList)) = (List.range n).map f := by
    rw [List.map_map]
    exact List.map_congr_left (fun k _ => bs_data (f k))
  have hx := Any.strings_Join Tryd.joinLays joinExtra b 0 c ((List.range n).map fun k => bs (f k)) (bs sep) w
    (fun j x hj => by
      rw [List.getElem?_map] at hj
      obtain ⟨i, hi, rfl⟩ := Option.map_eq_some_iff.1 hj
      rw [List.getElem?_range] at hi
      · obtain rfl := Option.some.inj hi
        have hjn : j < n := by
          have := (List.getElem?_eq_some_iff.1 (by simpa using hj : ((List.range n).map fun k => bs (f k))[j]? = some (bs (f j)))).1
          simpa using this
        rw [Nat.zero_add, hA.cell (by omega), hF j hjn]; rfl
      · have := (List.getElem?_eq_some_iff.1 hi).1
        simpa using this)
    hA.lt (by rw [hl]; omega) (by rw [hl]; exact hc)
    (by rw [hmap, bs_data]; have := joinT_len (sep := sep) n hf; unfold joinT at this; omega)
  rw [hl, hmap, bs_data] at hx
  exact hx
end Go.Proofs.YtcdpdcjdjcbhcaaDoor

/-
  What the rows of texts take out of their condition: the table of powers.
-/
namespace Go.Proofs.YtcdpdcjdjcbhcaaDoor
open Go Go.RowKit Go.ChangeShapes Go.WideShapes Go.ChangeAt

theorem tabP_data {H : Type} : (Rows.laid_internal_strconv_uint64pow10 : DataW H) = Lib.tabData .u64 Lib.pow10Tab := rfl
theorem tabP_of_list {W : World} {x y : String × DataW Unit} {r : List (String × DataW Unit)} (h : laidMet Tryd.prog (x :: y :: ("internal/strconv.uint64pow10", Rows.laid_internal_strconv_uint64pow10) :: r) W) : TabP W :=
  Lib.tabIs_of_head (rest := r) (k := .u64) (zs := Lib.pow10Tab) (n := 20) (t := 209) (e := 191) tabP_g (by kernel_rfl) Tryd.underlying209 Tryd.underlying191 (by kernel_rfl) (by kernel_rfl) (by have h' := h.tail.tail; rw [tabP_data] at h'; exact h')
theorem tabP_of_laid {W : World} (h : laidMetH Tryd.prog Rows.fnExactSightsTextRow.laid W) : TabP W := by
  rw [MakeChecks.laidMetH_plain _ _ _ (by kernel_rfl)] at h
  exact tabP_of_list h
end Go.Proofs.YtcdpdcjdjcbhcaaDoor

