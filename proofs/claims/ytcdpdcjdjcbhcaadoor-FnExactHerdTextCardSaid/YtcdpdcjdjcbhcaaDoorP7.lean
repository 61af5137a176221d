/-
  Several texts in one: TextM, TextC, OpenT, OpenHT, HerdL, BldC, HerdTx, StepLit, TextF, Mutual.
-/
import Derived.Lib.ItoaLen
import Derived.Lib.Join
import Derived.Laws.Concat
import Derived.Lib.Hide
import Derived.Test.YtcdpdcjdjcbhcaaDoorP6
import Derived.Test.YtcdpdcjdjcbhcaaDoorP2
import Derived.Lib.AppendIntMem
import Derived.WalkSmall
import Derived.Test.YtcdpdcjdjcbhcaaDoorP1
import Derived.Stop.LaidErr
import Derived.Lib.LaidTab
import Derived.Test.YtcdpdcjdjcbhcaaDoorP3
import Derived.Test.YtcdpdcjdjcbhcaaDoorP5
import Derived.Lib.OthersKept
import Derived.Shelf.Strings.BuilderK
import Derived.Shelf.Strings.MapGrows
import Derived.Test.YtcdpdcjdjcbhcaaDoorP4
import Derived.Laws.BytesString
import Derived.Laws.Cells
/-
  Texts: numbers, spots, words in a row.
-/
namespace Go.Proofs.YtcdpdcjdjcbhcaaDoor
open Go

/-- A string of these bytes. -/
def bs (l : List UInt8) : ByteArray := ⟨l.toArray⟩
theorem bs_size (l : List UInt8) : (bs l).size = l.length := by simp [bs, ByteArray.size]
theorem bs_append (a b : List UInt8) : bs a ++ bs b = bs (a ++ b) := ByteArray.mk_append_mk a b
theorem bs_data (l : List UInt8) : (bs l).data.toList = l := by simp [bs]
theorem cat_run {P : Program} (a b : List UInt8) (h : a.length + b.length ≤ 100000000) (W : World) : (Op.stringOp .add (bs a) (bs b)).run P W = .ok (.string (bs (a ++ b))) W := by
  rw [run_string_add_sum W _ _ (by rw [bs_size, bs_size]; omega), bs_append]

theorem ret_bs {l m : List UInt8} (h : l = m) : Ending.returned (.string (bs l)) = .returned (.string (bs m)) := by rw [h]

/-- A number's digits. -/
def numB (n : Int) : List UInt8 := Lib.decDigits n.toNat
theorem nDigits_le10 {u : Nat} (h : u < 10000000000) : Lib.nDigits u ≤ 10 := by
  have key : ∀ (k u : Nat), u < 10 ^ (k + 1) → Lib.nDigits u ≤ k + 1 := by
    intro k
    induction k with
    | zero => intro u h; rw [Lib.nDigits_small (by omega)]; omega
    | succ k ih =>
      intro u h
      by_cases h10 : u < 10
      · rw [Lib.nDigits_small h10]; omega
      · rw [Lib.nDigits_big h10]
        have := ih (u / 10) (by rw [Nat.div_lt_iff_lt_mul (by omega)]; rw [Nat.pow_succ] at h; omega)
        omega
  exact key 9 u h
theorem numB_len {n : Int} (h : n ≤ 9000000000) : (numB n).length ≤ 10 := by
  unfold numB
  rw [Lib.decDigits_length]
  exact nDigits_le10 (by omega)
/-- A spot's text. -/
def spotT (x y : Int) : List UInt8 := numB x ++ [44] ++ numB y
theorem spotT_len {x y : Int} (hx : x ≤ 9000000000) (hy : y ≤ 9000000000) : (spotT x y).length ≤ 21 := by
  have := numB_len hx
  have := numB_len hy
  simp [spotT]; omega

/-- The first n words, with a separator between them. -/
def joinT (sep : List UInt8) (f : Nat → List UInt8) (n : Nat) : List UInt8 := Lib.join ((List.range n).map f) sep
theorem joinT_zero (sep : List UInt8) (f : Nat → List UInt8) : joinT sep f 0 = [] := rfl
theorem joinT_one (sep : List UInt8) (f : Nat → List UInt8) : joinT sep f 1 = f 0 := by
  unfold joinT; exact Lib.join_one _ _
theorem join_snoc (sep y : List UInt8) : ∀ (xs : List (List UInt8)), xs ≠ [] → Lib.join (xs ++ [y]) sep = Lib.join xs sep ++ sep ++ y := by
  intro xs h
  cases xs with
  | nil => exact absurd rfl h
  | cons x r =>
    rw [List.cons_append, Lib.join_cons, Lib.join_cons]
    simp [Lib.joinTail, List.append_assoc]
theorem joinT_succ (sep : List UInt8) (f : Nat → List UInt8) {n : Nat} (h : 0 < n) : joinT sep f (n + 1) = joinT sep f n ++ sep ++ f n := by
  unfold joinT
  rw [List.range_succ, List.map_append, List.map_singleton]
  exact join_snoc sep _ _ (by cases n with | zero => omega | succ n => simp [List.range_succ])
theorem joinT_len {sep : List UInt8} {f : Nat → List UInt8} {m : Nat} : ∀ n : Nat, (∀ k, k < n → (f k).length ≤ m) → (joinT sep f n).length ≤ n * (m + sep.length)
  | 0, _ => by simp [joinT_zero]
  | n + 1, h => by
    have ih := joinT_len (sep := sep) n (fun k hk => h k (by omega))
    have hn := h n (by omega)
    by_cases h0 : n = 0
    · subst h0; rw [joinT_one]; omega
    · rw [joinT_succ sep f (by omega)]
      simp only [List.length_append]
      rw [Nat.succ_mul]; omega
end Go.Proofs.YtcdpdcjdjcbhcaaDoor

/-
  strconv.FormatInt, strings.Join by contracts.
-/
namespace Go.Proofs.YtcdpdcjdjcbhcaaDoor
open Go Go.RowKit Go.BigFrame Go.Shelf

/-- The table that FormatInt reads. -/
def TabP (W : World) : Prop := Lib.TabIs Tryd.prog W "internal/strconv.uint64pow10" .u64 Lib.pow10Tab
theorem tabP_g : Tryd.prog.globalNamed "internal/strconv.uint64pow10" = some 2 := by kernel_rfl
theorem TabP.lt {W : World} (h : TabP W) : 2 < W.heap.size := by
  have h := h
  unfold TabP Lib.TabIs World.var? at h
  simp only [tabP_g, Option.bind_some] at h
  by_cases hl : 2 < W.heap.size
  · exact hl
  · rw [Array.getElem?_eq_none (by omega)] at h; cases h
theorem TabP.below {W W' : World} (h : TabP W) (hb : Below W.heap.size W W') : TabP W' := var?_below hb tabP_g h.lt h

theorem fmt_any (n : Int) (h0 : 0 ≤ n) (h1 : n ≤ 9000000000) (w : World) (hT : TabP w) :
    Calls Tryd.prog 52 #[.int .i64 n, .int .i64 10] w fun e w' => e = .returned (.string (bs (numB n))) ∧ Below w.heap.size w w' := by
  refine (Any.strconv_FormatInt_10 Tryd.fmtLays n (by omega) (by omega) w hT).mono ?_
  rintro e w' ⟨rfl, k, os, rfl⟩
  exact ⟨by rw [show Lib.itoa n = numB n from by unfold Lib.itoa numB; rw [if_neg (by omega)]]; rfl, Lib.below_grow _ _ (Nat.le_refl _) k os⟩

theorem joinExtra : Builder.Extra Tryd.prog Tryd.joinLays_ren := { sizeBuilder := by kernel_rfl, liesBuilder := by kernel_rfl, t5 := Tryd.underlying5, a5 := Tryd.isAgg5, z5 := Tryd.sizeOf5, v5 := Tryd.zeroValue5, infoByte := by kernel_rfl, cellsByte := by kernel_rfl, sizeByte := by kernel_rfl, neB5 := by decide }

/-- The strings that f tells. -/
def strF (f : Nat → List UInt8) : Nat → Value := fun k => .string (bs (f k))
theorem join_none (a : Option Addr) (c : Nat) (sep : List UInt8) (w : World) :
    Calls Tryd.prog 46 #[.slice a 0 c, .string (bs sep)] w fun e w' => e = .returned (.string (bs [])) ∧ Below w.heap.size w w' := by
  refine (Any.strings_Join_none Tryd.joinLays joinExtra a c (bs sep) w).mono ?_
  rintro e w' ⟨rfl, rfl⟩
  exact ⟨rfl, Below.refl _ _⟩
theorem join_any (b n N c : Nat) (f : Nat → List UInt8) (F : Nat → Value) (sep : List UInt8) (m : Nat) (hf : ∀ k, k < n → (f k).length ≤ m) (hm : n * (m + sep.length) ≤ 100000000) (hn : n ≤ 1048576) (hnN : n ≤ N) (hF : ∀ k, k < n → F k = strF f k) (hc : n ≤ c) (w : World) (hA : At w b N F) :
    Calls Tryd.prog 46 #[.slice (some ⟨b, 0, none⟩) n c, .string (bs sep)] w fun e w' => e = .returned (.string (bs (joinT sep f n))) ∧ Below w.heap.size w w' := by
  have hl : ((List.range n).map fun k => bs (f k)).length = n := by simp
  have hmap : (((List.range n).map fun k => bs (f k)).map (·.data.toList)) = (List.range n).map f := by
    rw [List.map_map]
    exact List.map_congr_left (fun k _ => bs_data (f k))
  have hx := Any.strings_Join Tryd.joinLays joinExtra b 0 c ((List.range n).map fun k => bs (f k)) (bs sep) w
    (fun j x hj => by
      rw [List.getElem?_map] at hj
      obtain ⟨i, hi, rfl⟩ := Option.map_eq_some_iff.1 hj
      rw [List.getElem?_range] at hi
      · obtain rfl := Option.some.inj hi
        have hjn : j < n := by
          have := (List.getElem?_eq_some_iff.1 (by simpa using hj : ((List.range n).map fun k => bs (f k))[j]? = some (bs (f j)))).1
          simpa using this
        rw [Nat.zero_add, hA.cell (by omega), hF j hjn]; rfl
      · have := (List.getElem?_eq_some_iff.1 hi).1
        simpa using this)
    hA.lt (by rw [hl]; omega) (by rw [hl]; exact hc)
    (by rw [hmap, bs_data]; have := joinT_len (sep := sep) n hf; unfold joinT at this; omega)
  rw [hl, hmap, bs_data] at hx
  exact hx
end Go.Proofs.YtcdpdcjdjcbhcaaDoor

/-
  What the rows of texts take out of their condition: the table of powers.
-/
namespace Go.Proofs.YtcdpdcjdjcbhcaaDoor
open Go Go.RowKit Go.ChangeShapes Go.WideShapes Go.ChangeAt

theorem tabP_data {H : Type} : (Rows.laid_internal_strconv_uint64pow10 : DataW H) = Lib.tabData .u64 Lib.pow10Tab := rfl
theorem tabP_of_list {W : World} {x y : String × DataW Unit} {r : List (String × DataW Unit)} (h : laidMet Tryd.prog (x :: y :: ("internal/strconv.uint64pow10", Rows.laid_internal_strconv_uint64pow10) :: r) W) : TabP W :=
  Lib.tabIs_of_head (rest := r) (k := .u64) (zs := Lib.pow10Tab) (n := 20) (t := 209) (e := 191) tabP_g (by kernel_rfl) Tryd.underlying209 Tryd.underlying191 (by kernel_rfl) (by kernel_rfl) (by have h' := h.tail.tail; rw [tabP_data] at h'; exact h')
theorem tabP_of_laid {W : World} (h : laidMetH Tryd.prog Rows.fnExactSightsTextRow.laid W) : TabP W := by
  rw [MakeChecks.laidMetH_plain _ _ _ (by kernel_rfl)] at h
  exact tabP_of_list h
end Go.Proofs.YtcdpdcjdjcbhcaaDoor

/-
  What HerdText's row takes out of its condition: the errors, the tables.
-/
namespace Go.Proofs.YtcdpdcjdjcbhcaaDoor
open Go Go.RowKit Go.ChangeShapes Go.WideShapes Go.ChangeAt

theorem henvT_of_laid {W : World} (h : laidMetH Tryd.prog Rows.fnExactHerdTextRow.laid W) : ∃ a, Errs a W ∧ Tab W ∧ TabP W := by
  obtain ⟨a, hE, hT⟩ := henvs_of_laid h
  refine ⟨a, hE, hT, ?_⟩
  rw [MakeChecks.laidMetH_plain _ _ _ (by kernel_rfl)] at h
  exact tabP_of_list h
end Go.Proofs.YtcdpdcjdjcbhcaaDoor

/-
  Laws over herds: a herd's blocks out of the memory of a law.
-/
namespace Go.Proofs.YtcdpdcjdjcbhcaaDoor
open Go Go.RowKit Go.BigFrame

theorem hdB_ge {d : Hd} {b1 b2 b3 s : Nat} (h1 : s ≤ b1) (h2 : s ≤ b2) (h3 : s ≤ b3) : ∀ (i : Nat) (p : Nat × Nat × (Nat → Value)), (hdB d b1 b2 b3)[i]? = some p → s ≤ p.1 := fun i p h => by
  rcases i with _ | _ | _ | i <;> simp [hdB] at h <;> (rw [← h]; assumption)
theorem hdV_one (d : Hd) (b1 b2 b3 k : Nat) : (hdV d b1 b2 b3 k).oneCell' = true := by
  unfold hdV h3
  (repeat' split) <;> rfl
theorem three_of {b0 : Base} {L : Blocks} {X : World} {d : Hd} {b1 b2 b3 : Nat} (h : Mem b0 L X) (i : Nat) (hi : (L.drop i).take 3 = hdB d b1 b2 b3) : Mem X (hdB d b1 b2 b3) X := by
  have key : ∀ (q : Nat) (p : Nat × Nat × (Nat → Value)), (hdB d b1 b2 b3)[q]? = some p → L[i + q]? = some p := fun q p hq => by
    rw [← hi, List.getElem?_take] at hq
    split at hq
    · rwa [List.getElem?_drop] at hq
    · simp at hq
  have hM := h.base (w' := Base.of X) (Below.refl _ _)
  exact ⟨hM.good, fun q b n f hq => hM.ats _ b n f (key q _ hq), fun q r p s hq hr hne => hM.apart _ _ p s (key q _ hq) (key r _ hr) (by omega)⟩
end Go.Proofs.YtcdpdcjdjcbhcaaDoor

/-
  A strings.Builder of the call's own: made, written, read.
-/
namespace Go.Proofs.YtcdpdcjdjcbhcaaDoor
open Go Go.RowKit Go.BigFrame Go.Shelf

/-- A builder that was made in the world W0, and holds these bytes. -/
def Bld (W0 : World) (l : List UInt8) (W : World) : Prop := Lib.IsBuilderF 122 5 W0.heap.size W0.heap.size (Lib.byteCells l) W ∧ Below W0.heap.size W0 W
theorem Bld.below {W0 W : World} {l : List UInt8} (h : Bld W0 l W) : Below W0.heap.size W0 W := h.2
theorem Bld.call {W0 W W' : World} {l : List UInt8} (h : Bld W0 l W) (hb : Below W.heap.size W W') : Bld W0 l W' := ⟨Lib.IsBuilderF.below h.1 hb, h.2.trans (hb.mono h.2.size)⟩
theorem zeroBld : (Tryd.prog.info? 122).map (·.zero) = some (some (.agg #[.pointer none, .slice none 0 0])) := by kernel_rfl
theorem wpList_bld {ops : Array Oper} {rest : List Oper} {o : Oper} {a : Act} {W : World} {Q : Exit → Act → World → Prop} (hgd : o.guard = none) (ho : o.op = .alloc 122)
    (h : ∀ W', Bld W [] W' → wpList Tryd.prog ops Q rest (a.put o.dst (.pointer (some ⟨W.heap.size, 0, none⟩))) W') : wpList Tryd.prog ops Q (o :: rest) a W := by
  refine wpList_plain hgd fun K hK => ?_
  have hzv : (zeroValue 122).run Tryd.prog W = .ok (.agg #[.pointer none, .slice none 0 0]) W := by
    have hz := zeroBld
    cases hq : Tryd.prog.info? 122 with
    | none => simp [hq] at hz
    | some i => simp [hq] at hz; simp [zeroValue, typeInfo, hq, hz]
  unfold Oper.wp execOp
  simp only [ho, Instr.alloc, Sem.run_bind, Sem.run_pure, Result.andThen_ok, hzv, newVar, newRow, newObj, Sem.run, Value.cells]
  exact hK _ _ (h _ ⟨Lib.IsBuilderF.of (Lib.fresh_isBuilder _ _ W), (Below.refl _ W).alloc (Nat.le_refl _) _⟩)

theorem bws_any (W0 : World) (l m : List UInt8) (hlen : l.length + m.length ≤ 100000000) (W : World) (h : Bld W0 l W) :
    Calls Tryd.prog 70 #[.pointer (some ⟨W0.heap.size, 0, none⟩), .string (bs m)] W fun e w' => (e = .returned (.tuple #[.int .i64 m.length, .nilIface])) ∧ Bld W0 (l ++ m) w' := by
  have hbl : (Lib.byteCells l).length = l.length := by simp [Lib.byteCells]
  refine (Any.Builder_WriteString_k (P := Tryd.prog) (ρ := Tryd.joinLays_ren) { Tryd.joinLays with } joinExtra W0.heap.size W0.heap.size (Lib.byteCells l) (bs m) W h.1 (by rw [hbl, bs_size]; omega) h.2.size).mono ?_
  rintro e w' ⟨rfl, h1, h2, -⟩
  refine ⟨by rw [bs_size], .inr ?_, h.2.trans h2⟩
  have e : Lib.byteCells l ++ Lib.strCells (bs m) = Lib.byteCells (l ++ m) := by rw [Lib.strCells_eq, bs_data, Lib.byteCells_append]
  rw [e] at h1
  exact h1
theorem bstr_any (W0 : World) (l : List UInt8) (W : World) (h : Bld W0 l W) :
    Calls Tryd.prog 73 #[.pointer (some ⟨W0.heap.size, 0, none⟩)] W fun e w' => e = .returned (.string (bs l)) ∧ Below W0.heap.size W0 w' := by
  refine (Any.Builder_String_any_k (P := Tryd.prog) (ρ := Tryd.joinLays_ren) { Tryd.joinLays with } joinExtra W0.heap.size W0.heap.size l W h.1 h.2.size).mono ?_
  rintro e w' ⟨rfl, -, h2, -⟩
  exact ⟨rfl, h.2.trans h2⟩

theorem wpList_bldM {w : Base} {L : Blocks} {ops : Array Oper} {rest : List Oper} {o : Oper} {a : Act} {W : World} {Q : Exit → Act → World → Prop} (hgd : o.guard = none) (ho : o.op = .alloc 122) (hM : Mem w L W)
    (h : ∀ (W0 : World) (B : Nat) (W' : World), Mem w L W0 → Hid (B = W0.heap.size) → Bld W0 [] W' → wpList Tryd.prog ops Q rest (a.put o.dst (.pointer (some ⟨B, 0, none⟩))) W') : wpList Tryd.prog ops Q (o :: rest) a W :=
  wpList_bld hgd ho fun W' hb => h W W.heap.size W' hM (Lib.hid rfl) hb
theorem bws_at (W0 : World) (B : Nat) (hB : B = W0.heap.size) (l m : List UInt8) (hlen : l.length + m.length ≤ 100000000) (W : World) (h : Bld W0 l W) :
    Calls Tryd.prog 70 #[.pointer (some ⟨B, 0, none⟩), .string (bs m)] W fun e w' => (e = .returned (.tuple #[.int .i64 m.length, .nilIface])) ∧ Bld W0 (l ++ m) w' := by
  subst hB; exact bws_any W0 l m hlen W h
theorem bstr_at (W0 : World) (B : Nat) (hB : B = W0.heap.size) (l : List UInt8) (W : World) (h : Bld W0 l W) :
    Calls Tryd.prog 73 #[.pointer (some ⟨B, 0, none⟩)] W fun e w' => e = .returned (.string (bs l)) ∧ Below W0.heap.size W0 w' := by
  subst hB; exact bstr_any W0 l W h

/-- The first n texts, one behind the other. -/
def catT (f : Nat → List UInt8) (n : Nat) : List UInt8 := ((List.range n).map f).flatten
theorem catT_zero (f : Nat → List UInt8) : catT f 0 = [] := rfl
theorem catT_succ (f : Nat → List UInt8) (n : Nat) : catT f (n + 1) = catT f n ++ f n := by
  unfold catT; rw [List.range_succ, List.map_append, List.flatten_append]; simp
theorem catT_len {f : Nat → List UInt8} {m : Nat} : ∀ n : Nat, (∀ k, k < n → (f k).length ≤ m) → (catT f n).length ≤ n * m
  | 0, _ => by simp [catT_zero]
  | n + 1, h => by
    have ih := catT_len n (fun k hk => h k (by omega))
    have hn := h n (by omega)
    rw [catT_succ, List.length_append, Nat.succ_mul]; omega
end Go.Proofs.YtcdpdcjdjcbhcaaDoor

/-
  The text of a herd.
-/
namespace Go.Proofs.YtcdpdcjdjcbhcaaDoor
open Go Go.RowKit Go.BigFrame

def nm (d : Hd) (k : Nat) : List UInt8 := (d.ss k).data.toList
theorem bs_nm (d : Hd) (k : Nat) : bs (nm d k) = d.ss k := by unfold bs nm; simp
def tailT (d : Hd) (l : List Nat) : List UInt8 := Lib.joinTail [32] (l.map (nm d))
theorem tailT_nil (d : Hd) : tailT d [] = [] := rfl
theorem tailT_snoc (d : Hd) (l : List Nat) (k : Nat) : tailT d (l ++ [k]) = tailT d l ++ [32] ++ nm d k := by simp [tailT, Lib.joinTail]
def foeL (s k : Nat) : List Nat := (List.range k).filter fun j => s.testBit j
theorem foeL_zero (s : Nat) : foeL s 0 = [] := rfl
theorem foeL_yes {s k : Nat} (h : s.testBit k = true) : foeL s (k + 1) = foeL s k ++ [k] := by unfold foeL; rw [List.range_succ, List.filter_append]; simp [h]
theorem foeL_no {s k : Nat} (h : s.testBit k = false) : foeL s (k + 1) = foeL s k := by unfold foeL; rw [List.range_succ, List.filter_append]; simp [h]
theorem foeL_len (s k : Nat) : (foeL s k).length ≤ k := by
  have := List.length_filter_le (fun j => s.testBit j) (List.range k)
  simpa [foeL] using this
theorem foeL_bits {s n : Nat} (hn : n ≤ 16) (h : s < 2 ^ n) : foeL s n = bitsL s := by
  unfold foeL bitsL
  have e : List.range 16 = List.range n ++ (List.range (16 - n)).map (n + ·) := by rw [← List.range_add]; congr 1; omega
  rw [e, List.filter_append]
  have e2 : ((List.range (16 - n)).map (n + ·)).filter (fun k => s.testBit k) = [] := by
    rw [List.filter_eq_nil_iff]
    intro a ha
    simp at ha
    obtain ⟨q, -, rfl⟩ := ha
    rw [Nat.testBit_lt_two_pow (Nat.lt_of_lt_of_le h (Nat.pow_le_pow_right (by decide) (by omega)))]
    decide
  rw [e2, List.append_nil]
theorem tailT_len {d : Hd} {m : Nat} : ∀ (l : List Nat), (∀ k, k ∈ l → (nm d k).length ≤ m) → (tailT d l).length ≤ l.length * (m + 1)
  | [], _ => by simp [tailT_nil]
  | k :: l, h => by
    have ih := tailT_len l (fun j hj => h j (List.mem_cons_of_mem _ hj))
    have hk := h k List.mem_cons_self
    have e : tailT d (k :: l) = [32] ++ nm d k ++ tailT d l := by simp [tailT, Lib.joinTail]
    rw [e]
    simp only [List.length_append, List.length_cons, List.length_nil]
    rw [Nat.succ_mul]; omega
def lineW (d : Hd) (i : Nat) : List UInt8 := nm d i ++ [32] ++ numB (d.es i) ++ tailT d (foeL (d.fs i).toNat d.n1) ++ [10]
def herdT (d : Hd) : List UInt8 := if herdB d then catT (lineW d) d.n1 else []
theorem herdT_no {d : Hd} (h : herdB d = false) : herdT d = [] := by unfold herdT; rw [h]; rfl
theorem herdT_yes {d : Hd} (h : herdB d = true) : herdT d = catT (lineW d) d.n1 := by unfold herdT; rw [h]; rfl
theorem nm_len {d : Hd} (h : HerdOk d) {k : Nat} (hk : k < d.n1) : (nm d k).length ≤ 8 := by
  have := h.name k hk
  unfold nameB at this
  simp only [Bool.and_eq_true, decide_eq_true_eq] at this
  have e : (nm d k).length = (d.ss k).size := by unfold nm; rfl
  omega
theorem foeT_len {d : Hd} (h : HerdOk d) (s : Nat) {k : Nat} (hk : k ≤ d.n1) : (tailT d (foeL s k)).length ≤ 14 * 9 := by
  have h1 := tailT_len (d := d) (m := 8) (foeL s k) (fun j hj => nm_len h (by
    unfold foeL at hj
    have := (List.mem_filter.1 hj).1
    have := List.mem_range.1 this
    omega))
  have h2 := foeL_len s k
  have h3 := h.n
  have h4 : (foeL s k).length * (8 + 1) ≤ 14 * 9 := Nat.mul_le_mul (by omega) (by omega)
  omega
theorem lineW_len {d : Hd} (h : HerdOk d) {i : Nat} (hi : i < d.n1) : (lineW d i).length ≤ 160 := by
  have h1 := nm_len h hi
  have h2 := foeT_len h (d.fs i).toNat (Nat.le_refl d.n1)
  have h3 := numB_len (n := d.es i) (by have := h.eats i hi; omega)
  simp [lineW]; omega
end Go.Proofs.YtcdpdcjdjcbhcaaDoor

/-
  PLAIN: a read of a block that a drawn region writes; a slice literal of one element in it.
-/
namespace Go.Proofs.YtcdpdcjdjcbhcaaDoor
open Go Go.RowKit Go.BigFrame

section
variable {P : Program} {o : Oper} {a : Act} {w : Base} {L x : Blocks} {K : Act → (World → Prop) → Prop}
/-- A read out of a block that the region writes later. -/
theorem step_getx (ty : TypeId) (y : Operand) (ho : o.op = .load ty y) (b off : Nat) (hx : a.eval y = .pointer (some ⟨b, off, none⟩)) (i : Nat) {n : Nat} {f : Nat → Value} (hi : x[i]? = some (b, n, f)) (hT : CellT P ty) (hle : off < n) (v : Value) (hv : f off = v)
    (h : K (a.put o.dst v) (Mem w (x ++ L))) : stepT P (Mem w L) o a (Mem w (x ++ L)) K := by
  have hil : i < x.length := (List.getElem?_eq_some_iff.1 hi).1
  have hi' : (x ++ L)[i]? = some (b, n, f) := by rw [List.getElem?_append_left hil]; exact hi
  intro W hM
  have hc := (hM.ats i _ _ _ hi').cell hle
  rw [hv] at hc
  refine .inl ⟨_, _, W, .inl ?_, kept_mem w L x, hM, h⟩
  unfold execOp
  simp only [ho, hx, Instr.loadAt, Instr.sureAddr, Sem.run_bind, Sem.run_pure, Result.andThen_ok, run_load_cell hT hc]
theorem step_lit1 (t e : TypeId) (y : Operand) (ho : o.op = .buildSlice t 1 #[(0, y)]) (u : Value) (hx : a.eval y = u) (h0 : u.oneCell' = true) (z : Value)
    (hu : P.underlying t = some (.slice e)) (hz : (P.info? e).map (fun i => (i.size, i.zero)) = some (1, some z))
    (h : ∀ b, w.B ≤ b → K (a.put o.dst (.slice (some ⟨b, 0, none⟩) 1 1)) (Mem w (((b, 1, fun _ => u) :: x) ++ L))) : stepT P (Mem w L) o a (Mem w (x ++ L)) K := by
  obtain ⟨ie, hie, hq⟩ := Option.map_eq_some_iff.1 hz
  simp only [Prod.mk.injEq] at hq
  refine fun W hW => .inl ⟨_, _, _, .inl ?_, kept_mem w L ((W.heap.size, 1, fun _ => u) :: x), hW.alloc e 1 _, h _ hW.size⟩
  have hf : Instr.fill (fun i => some (i * ie.size, ie.size)) ((Array.range (1 * ie.size)).map (z.cells[· % z.cells.size]!)) (Array.map (fun x => match x with | (i, x) => (i, a.eval x)) #[(0, y)]).toList = some (arr 1 fun _ => u) := by
    rw [hq.1]
    rw [show (Array.map (fun x => match x with | (i, x) => (i, a.eval x)) #[(0, y)]).toList = [(0, u)] by simp [hx]]
    rw [fill_cell h0 (off := 0) rfl (by simp), Instr.fill]
    refine congrArg some (arr_ext (by simp) (fun k hk => ?_))
    have : k = 0 := by omega
    subst this
    simp
  unfold execOp
  simp only [ho, Sem.run_bind, run_buildSlice W t e 1 _ (arr 1 fun _ => u) ie z hu hie hq.2 (by rw [hq.1]; omega) (by rw [hq.1]; omega) hf, Result.andThen_ok]
  rfl
end
end Go.Proofs.YtcdpdcjdjcbhcaaDoor

/-
  spec.Decimal by contract.
-/
namespace Go.Proofs.YtcdpdcjdjcbhcaaDoor
open Go Go.RowKit Go.BigFrame

theorem numB_small {n : Int} (h0 : 0 ≤ n) (h : n < 10) : numB n = [UInt8.ofNat (48 + n % 10).toNat] := by
  unfold numB; rw [Lib.decDigits, dif_pos (by omega)]; congr 2; omega
theorem numB_more {n : Int} (h : 10 ≤ n) : numB n = numB (n / 10) ++ [UInt8.ofNat (48 + n % 10).toNat] := by
  unfold numB
  rw [Lib.decDigits, dif_neg (by omega)]
  congr 2
  · congr 1; omega
  · congr 2; omega

/-- A string of the one byte that a block holds. -/
theorem run_str1 {P : Program} {W : World} {src dst e : TypeId} (hs : P.underlying src = some (.slice e)) (he : P.underlying e = some (.int .u8)) (hd : P.underlying dst = some .string) {b n c : Nat} {f : Nat → Value} (hA : At W b n f) (hn : 1 ≤ n) (k : Int) (hf : f 0 = .int .u8 k) :
    (convert src dst (.slice (some ⟨b, 0, none⟩) 1 c)).run P W = .ok (.string (bs [UInt8.ofNat k.toNat])) W := by
  rw [run_convert_bytes_string W src dst e _ _ _ hs he hd]
  have hl : (loadCells ⟨b, 0, none⟩ 1).run P W = .ok ([k].map (Value.int .u8)).toArray W := by
    exact run_loadCells W ⟨b, 0, none⟩ 1 (fun _ => .int .u8 k) (fun j hj => by
      obtain rfl : j = 0 := by omega
      exact (hA.cell (k := 0) (by omega)).trans (congrArg some hf))
  rw [run_bytesToString W _ 1 c [k] hl]
  rfl

section
variable {P : Program} {o : Oper} {a : Act} {w : Base} {L x : Blocks} {K : Act → (World → Prop) → Prop}
theorem step_str1 (src dst e : TypeId) (y : Operand) (ho : o.op = .convert src dst y) (hs : P.underlying src = some (.slice e)) (he : P.underlying e = some (.int .u8)) (hd : P.underlying dst = some .string) (b c : Nat) (hx : a.eval y = .slice (some ⟨b, 0, none⟩) 1 c) (i : Nat) {n : Nat} {f : Nat → Value} (hi : x[i]? = some (b, n, f)) (hn : 1 ≤ n) (k : Int) (hf : f 0 = .int .u8 k)
    (h : K (a.put o.dst (.string (bs [UInt8.ofNat k.toNat]))) (Mem w (x ++ L))) : stepT P (Mem w L) o a (Mem w (x ++ L)) K := by
  have hil : i < x.length := (List.getElem?_eq_some_iff.1 hi).1
  have hi' : (x ++ L)[i]? = some (b, n, f) := by rw [List.getElem?_append_left hil]; exact hi
  intro W hM
  refine .inl ⟨_, _, W, .inl ?_, kept_mem w L x, hM, h⟩
  unfold execOp
  simp only [ho, hx, run_str1 hs he hd (hM.ats i _ _ _ hi') hn k hf, Sem.run_bind, Sem.run_pure, Result.andThen_ok]
end
theorem wpList_str1 {P : Program} {ops : Array Oper} {rest : List Oper} {o : Oper} {a : Act} {W : World} {Q : Exit → Act → World → Prop} (hgd : o.guard = none) (src dst e : TypeId) (y : Operand) (ho : o.op = .convert src dst y) (hs : P.underlying src = some (.slice e)) (he : P.underlying e = some (.int .u8)) (hd : P.underlying dst = some .string) (b c : Nat) (hx : a.eval y = .slice (some ⟨b, 0, none⟩) 1 c) {n : Nat} {f : Nat → Value} (hA : At W b n f) (hn : 1 ≤ n) (k : Int) (hf : f 0 = .int .u8 k)
    (h : wpList P ops Q rest (a.put o.dst (.string (bs [UInt8.ofNat k.toNat]))) W) : wpList P ops Q (o :: rest) a W := by
  refine wpList_plain hgd fun K hK => ?_
  unfold Oper.wp execOp
  simp only [ho, hx, run_str1 hs he hd hA hn k hf, Sem.run_bind, Sem.run_pure, Result.andThen_ok]
  exact hK _ _ h
theorem cat_op {P : Program} {o : Oper} {a : Act} {t t' : TypeId} (x y : Operand) (ho : o.op = .binOp .add t x y t') (u v : List UInt8) (hx : a.eval x = .string (bs u)) (hy : a.eval y = .string (bs v)) (hb : u.length + v.length ≤ 100000000) (W : World) : (execOp a.eval o).run P W = .ok (.value (.string (bs (u ++ v)))) W := by
  unfold execOp
  have hg : (eqGuard .add t x y (.string (bs u)) (.string (bs v))).run P W = .ok () W := rfl
  simp only [ho, hx, hy, binOp, hg, cat_run u v hb W, Sem.run_bind, Sem.run_pure, Result.andThen_ok]
theorem wpList_cat {P : Program} {ops : Array Oper} {rest : List Oper} {o : Oper} {a : Act} {W : World} {Q : Exit → Act → World → Prop} (hgd : o.guard = none) {t t' : TypeId} (x y : Operand) (ho : o.op = .binOp .add t x y t') (u v : List UInt8) (hx : a.eval x = .string (bs u)) (hy : a.eval y = .string (bs v)) (hb : u.length + v.length ≤ 100000000)
    (h : wpList P ops Q rest (a.put o.dst (.string (bs (u ++ v)))) W) : wpList P ops Q (o :: rest) a W := by
  refine wpList_plain hgd fun K hK => ?_
  unfold Oper.wp
  rw [cat_op x y ho u v hx hy hb W]
  exact hK _ _ h
theorem infoU8 : (Tryd.prog.info? 5).map (fun i => (i.size, i.zero)) = some (1, some (.int .u8 0)) := by kernel_rfl
theorem bytes_under : Tryd.prog.underlying 120 = some (.slice 5) := Tryd.underlying120

set_option maxRecDepth 100000 in
set_option maxHeartbeats 1000000 in
theorem Decimal_one (n : Int) (h0 : 0 ≤ n) (h1 : n < 10) (w : World) :
    Calls Tryd.prog 94 #[.int .i64 n] w fun e w' => e = .returned (.string (bs (numB n))) ∧ Below w.heap.size w w' := by
  have hM := Mem.nil w
  obtain ⟨r, hr⟩ : ∃ r, n % 10 = r := ⟨_, rfl⟩
  have hr0 : 0 ≤ r ∧ r < 10 := by omega
  have hv := numB_small h0 h1
  rw [hr] at hv
  rw [hv]
  have c1 : IntKind.i64.wrap (48 + r) = 48 + r := IntWalk.i64_in _ (by omega)
  have c2 : IntKind.u8.wrap (48 + r) = 48 + r := by show (48 + r) % 256 = _; omega
  have d1 : decide (n < 10) = true := decide_eq_true h1
  clear hv
  have tk_l1 : True := trivial
  go_enter Tryd.func94, Tryd.ntmps94
  go_wp2_with (first | (have _t := tk_l1; refine wpList_lit1 rfl _ _ _ rfl (.int .u8 (48 + r)) rfl rfl _ bytes_under infoU8 hM ?_; intro bl W' hbl hM'; clear hM tk_l1; have hM := hM'; clear hM') | (refine wpList_str1 rfl _ _ _ _ rfl bytes_under Tryd.underlying5 Tryd.underlying9 _ _ rfl (hM.ats 0 _ _ _ rfl) (by omega) (48 + r) rfl ?_))
  go_ret
  exact ⟨rfl, hM.below⟩

set_option maxRecDepth 100000 in
set_option maxHeartbeats 2000000 in
theorem Decimal_more (n : Int) (h1 : 10 ≤ n) (h2 : n ≤ 9000000000) (ih : ∀ w : World, Calls Tryd.prog 94 #[.int .i64 (n / 10)] w fun e w' => e = .returned (.string (bs (numB (n / 10)))) ∧ Below w.heap.size w w') (w : World) :
    Calls Tryd.prog 94 #[.int .i64 n] w fun e w' => e = .returned (.string (bs (numB n))) ∧ Below w.heap.size w w' := by
  have hM := Mem.nil w
  obtain ⟨r, hr⟩ : ∃ r, n % 10 = r := ⟨_, rfl⟩
  obtain ⟨q, hq⟩ : ∃ q, n / 10 = q := ⟨_, rfl⟩
  have hr0 : 0 ≤ r ∧ r < 10 := by omega
  have hl := numB_len (n := q) (by omega)
  have hv := numB_more h1
  rw [hr, hq] at hv
  rw [hv]
  rw [hq] at ih
  have IH := Lib.hid ih
  have eq : n.tdiv 10 = q := by rw [Int.tdiv_eq_ediv_of_nonneg (by omega)]; exact hq
  have er : n.tmod 10 = r := by rw [Int.tmod_eq_emod_of_nonneg (by omega)]; exact hr
  have c0 : IntKind.i64.wrap q = q := IntWalk.i64_in _ (by omega)
  have c1 : IntKind.i64.wrap (48 + r) = 48 + r := IntWalk.i64_in _ (by omega)
  have c2 : IntKind.u8.wrap (48 + r) = 48 + r := by show (48 + r) % 256 = _; omega
  have d1 : decide (n < 10) = false := decide_eq_false (by omega)
  obtain ⟨u, hu⟩ : ∃ u, numB q = u := ⟨_, rfl⟩
  rw [hu] at hl IH ⊢
  have hbnd : u.length + [UInt8.ofNat (48 + r).toNat].length ≤ 100000000 := by simp; omega
  clear hv ih hu
  go_enter Tryd.func94, Tryd.ntmps94
  go_wp2
  ((try simp only [Act.put, List.setIfInBounds_toArray, List.set_cons_succ, List.set_cons_zero]); refine region_readsX [0, 1, 3, 4, 5, 6] #[true, true, false, true, true, true, true, false, false, false, false] 5 [] (by kernel_rfl) (by kernel_rfl) (by kernel_rfl) hM ?_; clear hM; (repeat (refine qs_plain rfl rfl ?_; first | (refine b_val ?_; apply Exists.intro; refine ⟨fun W => ?_, ?_⟩; (go_simp; (try simp only [eq, er, c0, c1, c2, if_true]); rfl); (simp only [Act.put, List.setIfInBounds_toArray, List.set_cons_succ, List.set_cons_zero])))); (with_reducible refine qs_nil ?_))
  (refine mix_two (i := 2) (j := 7) (by kernel_rfl) rfl rfl (by kernel_rfl) (by kernel_rfl) rfl rfl ?_ ?_)
  · (refine step_call ?_; apply Exists.intro; apply Exists.intro; apply Exists.intro; refine ⟨fun W => ?_, fun W hM => ?_, ?_⟩; (go_simp; exact ⟨rfl, rfl⟩); (exact IH.out W); (simp only [Act.put, List.setIfInBounds_toArray, List.set_cons_succ, List.set_cons_zero]))
    (refine mix_one (i := 7) (by kernel_rfl) rfl (by kernel_rfl) rfl ?_)
    (refine step_lit1 _ _ _ rfl (.int .u8 (48 + r)) rfl rfl _ bytes_under infoU8 ?_; intro bl hbl; (simp only [Act.put, List.setIfInBounds_toArray, List.set_cons_succ, List.set_cons_zero]))
    (refine mix_one (i := 8) (by kernel_rfl) rfl (by kernel_rfl) rfl ?_)
    (refine step_str1 _ _ _ _ rfl bytes_under Tryd.underlying5 Tryd.underlying9 _ _ rfl 0 rfl (by omega) (48 + r) rfl ?_; (simp only [Act.put, List.setIfInBounds_toArray, List.set_cons_succ, List.set_cons_zero]))
    (refine mix_one (i := 9) (by kernel_rfl) rfl (by kernel_rfl) rfl ?_)
    (refine step_val ⟨_, fun W => cat_op _ _ rfl u [UInt8.ofNat (48 + r).toNat] rfl rfl hbnd W, ?_⟩; (simp only [Act.put, List.setIfInBounds_toArray, List.set_cons_succ, List.set_cons_zero]))
    (refine mix_one (i := 10) (by kernel_rfl) rfl (by kernel_rfl) rfl ?_)
    (refine step_val ?_; apply Exists.intro; refine ⟨fun W => ?_, ?_⟩; (go_simp; rfl); (simp only [Act.put, List.setIfInBounds_toArray, List.set_cons_succ, List.set_cons_zero]))
    (refine mix_end (by kernel_rfl) ?_; intro W' hM; simp only [List.cons_append, List.nil_append] at hM)
    go_wp2
    go_ret
    exact ⟨rfl, hM.below⟩
  · (refine step_lit1 _ _ _ rfl (.int .u8 (48 + r)) rfl rfl _ bytes_under infoU8 ?_; intro bl hbl; (simp only [Act.put, List.setIfInBounds_toArray, List.set_cons_succ, List.set_cons_zero]))
    (refine mix_two (i := 2) (j := 8) (by kernel_rfl) rfl rfl (by kernel_rfl) (by kernel_rfl) rfl rfl ?_ ?_)
    · (refine step_call ?_; apply Exists.intro; apply Exists.intro; apply Exists.intro; refine ⟨fun W => ?_, fun W hM => ?_, ?_⟩; (go_simp; exact ⟨rfl, rfl⟩); (exact IH.out W); (simp only [Act.put, List.setIfInBounds_toArray, List.set_cons_succ, List.set_cons_zero]))
      (refine mix_one (i := 8) (by kernel_rfl) rfl (by kernel_rfl) rfl ?_)
      (refine step_str1 _ _ _ _ rfl bytes_under Tryd.underlying5 Tryd.underlying9 _ _ rfl 0 rfl (by omega) (48 + r) rfl ?_; (simp only [Act.put, List.setIfInBounds_toArray, List.set_cons_succ, List.set_cons_zero]))
      (refine mix_one (i := 9) (by kernel_rfl) rfl (by kernel_rfl) rfl ?_)
      (refine step_val ⟨_, fun W => cat_op _ _ rfl u [UInt8.ofNat (48 + r).toNat] rfl rfl hbnd W, ?_⟩; (simp only [Act.put, List.setIfInBounds_toArray, List.set_cons_succ, List.set_cons_zero]))
      (refine mix_one (i := 10) (by kernel_rfl) rfl (by kernel_rfl) rfl ?_)
      (refine step_val ?_; apply Exists.intro; refine ⟨fun W => ?_, ?_⟩; (go_simp; rfl); (simp only [Act.put, List.setIfInBounds_toArray, List.set_cons_succ, List.set_cons_zero]))
      (refine mix_end (by kernel_rfl) ?_; intro W' hM; simp only [List.cons_append, List.nil_append] at hM)
      go_wp2
      go_ret
      exact ⟨rfl, hM.below⟩
    · (refine step_str1 _ _ _ _ rfl bytes_under Tryd.underlying5 Tryd.underlying9 _ _ rfl 0 rfl (by omega) (48 + r) rfl ?_; (simp only [Act.put, List.setIfInBounds_toArray, List.set_cons_succ, List.set_cons_zero]))
      (refine mix_one (i := 2) (by kernel_rfl) rfl (by kernel_rfl) rfl ?_)
      (refine step_call ?_; apply Exists.intro; apply Exists.intro; apply Exists.intro; refine ⟨fun W => ?_, fun W hM => ?_, ?_⟩; (go_simp; exact ⟨rfl, rfl⟩); (exact IH.out W); (simp only [Act.put, List.setIfInBounds_toArray, List.set_cons_succ, List.set_cons_zero]))
      (refine mix_one (i := 9) (by kernel_rfl) rfl (by kernel_rfl) rfl ?_)
      (refine step_val ⟨_, fun W => cat_op _ _ rfl u [UInt8.ofNat (48 + r).toNat] rfl rfl hbnd W, ?_⟩; (simp only [Act.put, List.setIfInBounds_toArray, List.set_cons_succ, List.set_cons_zero]))
      (refine mix_one (i := 10) (by kernel_rfl) rfl (by kernel_rfl) rfl ?_)
      (refine step_val ?_; apply Exists.intro; refine ⟨fun W => ?_, ?_⟩; (go_simp; rfl); (simp only [Act.put, List.setIfInBounds_toArray, List.set_cons_succ, List.set_cons_zero]))
      (refine mix_end (by kernel_rfl) ?_; intro W' hM; simp only [List.cons_append, List.nil_append] at hM)
      go_wp2
      go_ret
      exact ⟨rfl, hM.below⟩

theorem Decimal_any (n : Int) (h0 : 0 ≤ n) (h1 : n ≤ 9000000000) (w : World) : Calls Tryd.prog 94 #[.int .i64 n] w fun e w' => e = .returned (.string (bs (numB n))) ∧ Below w.heap.size w w' := by
  obtain ⟨m, rfl⟩ : ∃ m : Nat, n = m := ⟨n.toNat, by omega⟩
  clear h0
  induction m using Nat.strongRecOn generalizing w with
  | _ m ih =>
    by_cases h : (m : Int) < 10
    · exact Decimal_one _ (by omega) h w
    · refine Decimal_more _ (by omega) h1 (fun w => ?_) w
      have := ih (m / 10) (by omega) w (by omega)
      rwa [show ((m / 10 : Nat) : Int) = (m : Int) / 10 by omega] at this
end Go.Proofs.YtcdpdcjdjcbhcaaDoor

/-
  (impl.members).areMutual by contract.
-/
namespace Go.Proofs.YtcdpdcjdjcbhcaaDoor
open Go Go.RowKit Go.BigFrame

/-- A list of numbers in memory. -/
def NumsAt (W : World) (a : Option Addr) (l : List Nat) : Prop := l = [] ∨ ∃ b N F, a = some ⟨b, 0, none⟩ ∧ l.length ≤ N ∧ (∀ j (hj : j < l.length), F j = .int .i64 (l[j] : Nat)) ∧ At W b N F
theorem NumsAt.below {W W' : World} {a : Option Addr} {l : List Nat} (h : NumsAt W a l) (hb : Below W.heap.size W W') : NumsAt W' a l := by
  rcases h with h | ⟨b, N, F, h1, h2, h3, h4⟩
  · exact .inl h
  · exact .inr ⟨b, N, F, h1, h2, h3, h4.below hb h4.lt⟩
theorem NumsAt.at {W : World} {a : Option Addr} {l : List Nat} (h : NumsAt W a l) {k : Nat} (hk : k < l.length) : ∃ b N F, a = some ⟨b, 0, none⟩ ∧ l.length ≤ N ∧ F k = .int .i64 (l[k] : Nat) ∧ At W b N F := by
  rcases h with h | ⟨b, N, F, h1, h2, h3, h4⟩
  · rw [h] at hk; simp at hk
  · exact ⟨b, N, F, h1, h2, h3 k hk, h4⟩
theorem GivesV.nums {l : List Nat} {w : World} {e : Ending} {w' : World} (h : GivesV l w e w') : ∃ a c, e = .returned (.slice a l.length c) ∧ l.length ≤ c ∧ NumsAt w' a l ∧ Below w.heap.size w w' := by
  obtain ⟨v, rfl, h | ⟨b, c, F, h1, h2, h3, h4, h5⟩⟩ := h
  · obtain ⟨h1, h2, h3⟩ := h
    have hl : l = [] := List.eq_nil_of_length_eq_zero h2
    subst hl
    exact ⟨none, 0, by rw [h1]; rfl, Nat.le_refl _, .inl rfl, h3.below⟩
  · refine ⟨_, c, by rw [h1], h3, .inr ⟨b, c * 1, F, rfl, by omega, fun j hj => ?_, h5.at0⟩, h5.below⟩
    rw [h4 j (by omega), natI_at hj]

def mutA (d : Hd) (n : Nat) : Bool := (List.range n).all (mutB d)
theorem mutA_no {d : Hd} {n i : Nat} (hi : i < n) (h : mutB d i = false) : mutA d n = false := by
  unfold mutA
  rw [List.all_eq_false]
  exact ⟨i, by simpa using hi, by simp [h]⟩
theorem mutA_yes {d : Hd} {n : Nat} (h : ∀ i, i < n → mutB d i = true) : mutA d n = true := by
  unfold mutA
  rw [List.all_eq_true]
  exact fun i hi => h i (by simpa using hi)
theorem minus_all {s n : Nat} (hs : s < 65536) (hn : n ≤ 14) : minus s (2 ^ n - 1) = 0 ↔ s < 2 ^ n := by
  constructor
  · intro h
    refine Nat.lt_of_not_le fun hle => ?_
    obtain ⟨i, hi, ht⟩ := Nat.exists_ge_and_testBit_of_ge_two_pow hle
    have := minus_bit (b := 2 ^ n - 1) hs i
    rw [h, ht, Nat.testBit_two_pow_sub_one] at this
    simp at this
    omega
  · intro h
    apply Nat.eq_of_testBit_eq
    intro i
    rw [minus_bit hs, Nat.testBit_two_pow_sub_one]
    by_cases hi : i < n
    · simp [hi]
    · have : s.testBit i = false := Nat.testBit_lt_two_pow (Nat.lt_of_lt_of_le h (Nat.pow_le_pow_right (by decide) (by omega)))
      simp [this]
theorem mut_1 {d : Hd} {i : Nat} (h : ¬ d.fs i < 2 ^ d.n1) : mutB d i = false := by simp [mutB, h]
theorem mut_2 {d : Hd} {i : Nat} (h : foe d i i = true) : mutB d i = false := by simp [mutB, h]
theorem mut_3 {d : Hd} {i k : Nat} (hk : k ∈ bitsL (d.fs i).toNat) (h : foe d k i = false) : mutB d i = false := by
  have : ((bitsL (d.fs i).toNat).all fun k => foe d k i) = false := by rw [List.all_eq_false]; exact ⟨k, hk, by simp [h]⟩
  simp [mutB, this]

set_option maxRecDepth 100000 in
set_option maxHeartbeats 4000000 in
theorem areMutual_any (d : Hd) (a : Option Addr) (c : Nat) (hn : d.n1 ≤ 14) (hf : ∀ i, i < d.n1 → 0 ≤ d.fs i ∧ d.fs i ≤ 65535) (w : World) (hA : MemsAt w a d.n1 d) (hT : Tab w) :
    Calls Tryd.prog 132 #[.slice a d.n1 c] w fun e w' => e = .returned (.bool (mutA d d.n1)) ∧ Below w.heap.size w w' := by
  have hM := Mem.nil w
  have HA := Lib.hid hA
  have HT := Lib.hid hT
  have HF := Lib.hid hf
  obtain ⟨n, hnn⟩ : ∃ n, d.n1 = n := ⟨_, rfl⟩
  have HN := Lib.hid hnn
  rw [hnn] at hn hf ⊢
  rw [hnn] at HA
  clear hA hT hf hnn
  obtain ⟨al, hal⟩ : ∃ al, 2 ^ n - 1 = al := ⟨_, rfl⟩
  have HAL := Lib.hid hal
  have hal2 : al < 65536 := by rw [← hal]; have := u16_two n (by omega); omega
  clear hal
  go_enter Tryd.func132, Tryd.ntmps132
  go_wp2
  go_loopw [10] (fun i wr => ∃ k : Nat, k ≤ n ∧ i = .int .i64 k ∧ Hid (∀ j, j < k → mutB d j = true) ∧ Mem w [] wr) (fun i _ => n - (intOf i).toNat)
  case atStart => exact ⟨0, by omega, rfl, Lib.hid (fun j hj => absurd hj (by omega)), hM⟩
  case round =>
    clear hM
    obtain ⟨k, hk, rfl, hall, hM⟩ := hrel
    by_cases hlt : k < n
    · have l2 : (k : Int) < n := by omega
      obtain ⟨bm, N, F, hae, hN, -, hF, hAt⟩ := (HA.out.below hM.below).row hlt
      obtain ⟨s, hs⟩ : ∃ s : Nat, d.fs k = s := ⟨(d.fs k).toNat, by have := HF.out k (by rw [HN.out]; exact hlt); omega⟩
      have hs2 : s < 65536 := by have := HF.out k (by rw [HN.out]; exact hlt); omega
      have g2 : gMem d k 2 = .int .u16 s := by rw [← hs]; rfl
      have htn : (d.fs k).toNat = s := by omega
      obtain ⟨q, hq⟩ : ∃ q, minus s al = q := ⟨_, rfl⟩
      have em : bits .andNot .u16 (s : Int) (al : Int) = (q : Int) := by rw [minus_u16 hs2 hal2, hq]
      have hqz : q = 0 ↔ s < 2 ^ n := by rw [← hq, ← HAL.out]; exact minus_all hs2 hn
      have HS := Lib.hid hs
      have HTN := Lib.hid htn
      have HFr := Lib.hid hF
      have HAt := Lib.hid hAt
      have Hae := Lib.hid hae
      clear hs hq hF hAt htn
      by_cases h0 : q = 0
      case neg =>
        have z1 : ((q : Int) != 0) = true := by simpa using h0
        have z2 : ((q : Int) == 0) = false := by simpa using h0
        have HZ := Lib.hid (mutA_no hlt (mut_1 (d := d) (i := k) (by rw [HN.out, HS.out]; have := mt hqz.2 h0; intro h; apply this; exact_mod_cast h)))
        clear hqz h0
        have tk_b3 : True := trivial; have tk_s1 : True := trivial
        subst hae
        go_wp2_with (first | (refine wpList_getAt rfl _ _ rfl _ _ rfl HAt.out (rowTab _ _ rfl) (by omega) (gMem d k) HFr.out ?_) | (have _t := tk_b3; refine wpList_zero rfl _ rfl (zeroTab _ _ _ rfl) hM ?_; intro b3 W' hb3 hM'; clear hM tk_b3; have hM := hM'; clear hM') | (have _t := tk_s1; refine wpList_lay rfl _ _ _ rfl _ _ rfl _ _ rfl hM 0 rfl (by assumption) (rowTab _ _ rfl) (by omega) (fun j _ => gMem_one d k j) ?_; intro W' hM'; have hM2 := hM'.re 0 rfl (gMem d k) (fun k hk => by simp [lay, hk]); simp only [List.set_cons_zero] at hM2; clear hM hM' tk_s1; have hM := hM2; clear hM2))
        ((try simp only [Act.put, List.setIfInBounds_toArray, List.set_cons_succ, List.set_cons_zero]); refine wp_region_mem (by kernel_rfl) (by kernel_rfl) hM ?_; clear hM; (repeat (first | go_big_quiet_skip | (go_big_quiet_want; first | (refine quiet_get1 _ _ rfl _ _ rfl 0 rfl (cellTab _ rfl) (by omega) _ (g2) ?_; (simp only [Act.put, List.setIfInBounds_toArray, List.set_cons_succ, List.set_cons_zero]); go_big_quiet_on) | (refine quiet_call ?_; apply Exists.intro; apply Exists.intro; apply Exists.intro; refine ⟨fun W => ?_, fun W hM => ?_, ?_⟩; (go_simp; exact ⟨rfl, rfl⟩); (with_reducible exact all_any _ n c hn al HAL.out W); (simp only [Act.put, List.setIfInBounds_toArray, List.set_cons_succ, List.set_cons_zero]); go_big_quiet_on) | (refine quiet_val ?_; apply Exists.intro; refine ⟨fun W => ?_, ?_⟩; (go_simp; rfl); (simp only [Act.put, List.setIfInBounds_toArray, List.set_cons_succ, List.set_cons_zero]); go_big_quiet_on)))); (with_reducible refine wpQuiet_nil ?_); intro W' hM)
        go_wp2
        go_ret
        rw [HZ.out]
        exact ⟨rfl, hM.below⟩
      subst h0
      have hsn : s < 2 ^ n := hqz.1 rfl
      have hfoe : foe d k k = s.testBit k := by unfold foe; rw [HTN.out]
      have HSN := Lib.hid hsn
      clear hqz hsn
      cases hb : s.testBit k
      case true =>
        have HB := Lib.hid hb
        have HZ := Lib.hid (mutA_no hlt (mut_2 (hfoe.trans hb)))
        clear hb hfoe
        have tk_b3 : True := trivial; have tk_s1 : True := trivial
        subst hae
        go_wp2_with (first | (refine wpList_getAt rfl _ _ rfl _ _ rfl HAt.out (rowTab _ _ rfl) (by omega) (gMem d k) HFr.out ?_) | (have _t := tk_b3; refine wpList_zero rfl _ rfl (zeroTab _ _ _ rfl) hM ?_; intro b3 W' hb3 hM'; clear hM tk_b3; have hM := hM'; clear hM') | (have _t := tk_s1; refine wpList_lay rfl _ _ _ rfl _ _ rfl _ _ rfl hM 0 rfl (by assumption) (rowTab _ _ rfl) (by omega) (fun j _ => gMem_one d k j) ?_; intro W' hM'; have hM2 := hM'.re 0 rfl (gMem d k) (fun k hk => by simp [lay, hk]); simp only [List.set_cons_zero] at hM2; clear hM hM' tk_s1; have hM := hM2; clear hM2))
        ((try simp only [Act.put, List.setIfInBounds_toArray, List.set_cons_succ, List.set_cons_zero]); refine wp_region_mem (by kernel_rfl) (by kernel_rfl) hM ?_; clear hM; (repeat (first | go_big_quiet_skip | (go_big_quiet_want; first | (refine quiet_get1 _ _ rfl _ _ rfl 0 rfl (cellTab _ rfl) (by omega) _ (g2) ?_; (simp only [Act.put, List.setIfInBounds_toArray, List.set_cons_succ, List.set_cons_zero]); go_big_quiet_on) | (refine quiet_call ?_; apply Exists.intro; apply Exists.intro; apply Exists.intro; refine ⟨fun W => ?_, fun W hM => ?_, ?_⟩; (go_simp; exact ⟨rfl, rfl⟩); (with_reducible exact all_any _ n c hn al HAL.out W); (simp only [Act.put, List.setIfInBounds_toArray, List.set_cons_succ, List.set_cons_zero]); go_big_quiet_on) | (refine quiet_call ?_; apply Exists.intro; apply Exists.intro; apply Exists.intro; refine ⟨fun W => ?_, fun W hM => ?_, ?_⟩; (go_simp; exact ⟨rfl, rfl⟩); (with_reducible exact has_any s hs2 k (by omega) W); (simp only [HB.out]); (simp only [Act.put, List.setIfInBounds_toArray, List.set_cons_succ, List.set_cons_zero]); go_big_quiet_on) | (refine quiet_val ?_; apply Exists.intro; refine ⟨fun W => ?_, ?_⟩; (go_simp; rfl); (simp only [Act.put, List.setIfInBounds_toArray, List.set_cons_succ, List.set_cons_zero]); go_big_quiet_on)))); (with_reducible refine wpQuiet_nil ?_); intro W' hM)
        go_wp2
        go_ret
        rw [HZ.out]
        exact ⟨rfl, hM.below⟩
      have HB := Lib.hid hb
      have HFO := Lib.hid hfoe
      clear hb hfoe
      have tk_b3 : True := trivial; have tk_s1 : True := trivial
      subst hae
      go_wp2_with (first | (refine wpList_getAt rfl _ _ rfl _ _ rfl HAt.out (rowTab _ _ rfl) (by omega) (gMem d k) HFr.out ?_) | (have _t := tk_b3; refine wpList_zero rfl _ rfl (zeroTab _ _ _ rfl) hM ?_; intro b3 W' hb3 hM'; clear hM tk_b3; have hM := hM'; clear hM') | (have _t := tk_s1; refine wpList_lay rfl _ _ _ rfl _ _ rfl _ _ rfl hM 0 rfl (by assumption) (rowTab _ _ rfl) (by omega) (fun j _ => gMem_one d k j) ?_; intro W' hM'; have hM2 := hM'.re 0 rfl (gMem d k) (fun k hk => by simp [lay, hk]); simp only [List.set_cons_zero] at hM2; clear hM hM' tk_s1; have hM := hM2; clear hM2))
      ((try simp only [Act.put, List.setIfInBounds_toArray, List.set_cons_succ, List.set_cons_zero]); refine wp_region_mem (by kernel_rfl) (by kernel_rfl) hM ?_; clear hM; (repeat (first | go_big_quiet_skip | (go_big_quiet_want; first | (refine quiet_get1 _ _ rfl _ _ rfl 0 rfl (cellTab _ rfl) (by omega) _ (g2) ?_; (simp only [Act.put, List.setIfInBounds_toArray, List.set_cons_succ, List.set_cons_zero]); go_big_quiet_on) | (refine quiet_call ?_; apply Exists.intro; apply Exists.intro; apply Exists.intro; refine ⟨fun W => ?_, fun W hM => ?_, ?_⟩; (go_simp; exact ⟨rfl, rfl⟩); (with_reducible exact all_any _ n c hn al HAL.out W); (simp only [Act.put, List.setIfInBounds_toArray, List.set_cons_succ, List.set_cons_zero]); go_big_quiet_on) | (refine quiet_call ?_; apply Exists.intro; apply Exists.intro; apply Exists.intro; refine ⟨fun W => ?_, fun W hM => ?_, ?_⟩; (go_simp; exact ⟨rfl, rfl⟩); (with_reducible exact has_any s hs2 k (by omega) W); (simp only [HB.out]); (simp only [Act.put, List.setIfInBounds_toArray, List.set_cons_succ, List.set_cons_zero]); go_big_quiet_on) | (refine quiet_val ?_; apply Exists.intro; refine ⟨fun W => ?_, ?_⟩; (go_simp; rfl); (simp only [Act.put, List.setIfInBounds_toArray, List.set_cons_succ, List.set_cons_zero]); go_big_quiet_on)))); (with_reducible refine wpQuiet_nil ?_); intro W' hM)
      go_wp2_with (first | (refine wpList_get1 rfl _ _ rfl _ _ rfl hM 0 rfl (cellTab _ rfl) (by omega) _ g2 ?_) | (go_at_call 120; refine (list_any s hs2 _ (HT.out.below hM.below)).mono ?_; rintro e W' hG; obtain ⟨la, lc, rfl, hlc, hL, hb'⟩ := hG.nums; have hM' := hM.call hb'; have HL := Lib.hid hL; clear hM hb' hG hL; have hM := hM'; clear hM'))
      have hmem : ∀ x, x ∈ bitsL s → s.testBit x = true := fun x hx => (mem_bitsL hs2).1 hx
      have Hmem := Lib.hid hmem
      have hlen := bitsL_len s
      have HB3 := Lib.hid (fun x (hx : x ∈ bitsL s) (h : foe d x k = false) => mutA_no hlt (mut_3 (d := d) (i := k) (k := x) (by rw [HTN.out]; exact hx) h))
      have HMY := Lib.hid (fun (h : ∀ x, x ∈ bitsL s → foe d x k = true) => show mutB d k = true from by
        unfold mutB
        rw [HTN.out, decide_eq_true (by rw [HS.out, HN.out]; have := HSN.out; exact_mod_cast this), HFO.out, HB.out]
        simpa using h)
      clear hmem
      have HL' := HL
      clear HL
      generalize bitsL s = l at *
      go_loopw [32] (fun i wr => ∃ j : Nat, j ≤ l.length ∧ i = .int .i64 j ∧ Hid (∀ q (hq : q < l.length), q < j → foe d l[q] k = true) ∧ Hid (NumsAt wr la l) ∧ Mem w [(b3, 3, gMem d k)] wr) (fun i _ => l.length - (intOf i).toNat)
      case atStart => exact ⟨0, by omega, rfl, Lib.hid (fun q _ h => absurd h (by omega)), HL', hM⟩
      case round =>
        clear hM HL'
        obtain ⟨j, hj, rfl, hall2, HL, hM⟩ := hrel
        by_cases hjl : j < l.length
        · have l3 : (j : Int) < l.length := by omega
          obtain ⟨bl, NL, FL, rfl, hNL, hFL, hAL⟩ := HL.out.at hjl
          have hbit := Hmem.out _ (List.getElem_mem hjl)
          have hxn : l[j] < n := bit_lt HSN.out hbit
          have hxin := List.getElem_mem hjl
          obtain ⟨x, hx⟩ : ∃ x, l[j] = x := ⟨_, rfl⟩
          rw [hx] at hFL hbit hxn hxin
          have hfx := HF.out x (by rw [HN.out]; exact hxn)
          have HAL := Lib.hid hAL
          have HX := Lib.hid hx
          clear hAL hx hbit
          cases hfo : foe d x k
          · have HFX := Lib.hid hfo
            have HZ := Lib.hid (HB3.out x hxin hfo)
            clear hfo hxin
            go_wp2_with (first | (refine wpList_getAt1 rfl _ _ rfl _ _ rfl HAL.out (cellTab _ rfl) (by omega) _ hFL ?_) | (go_at_call 149; refine (areFoes_any d _ n c x k hxn (by omega) hfx _ (HA.out.below hM.below)).mono ?_; rintro e W' ⟨rfl, hb'⟩; rw [HFX.out]; have hM' := hM.call hb'; clear hM hb'; have hM := hM'; clear hM'))
            go_ret
            rw [HZ.out]
            exact ⟨rfl, hM.below⟩
          · have HFX := Lib.hid hfo
            clear hfo hxin
            go_wp2_with (first | (refine wpList_getAt1 rfl _ _ rfl _ _ rfl HAL.out (cellTab _ rfl) (by omega) _ hFL ?_) | (go_at_call 149; refine (areFoes_any d _ n c x k hxn (by omega) hfx _ (HA.out.below hM.below)).mono ?_; rintro e W' ⟨rfl, hb'⟩; rw [HFX.out]; have hM' := hM.call hb'; have HL2 := Lib.hid (HL.out.below hb'); clear hM hb'; have hM := hM'; clear hM'))
            go_roundw
            case rel => exact ⟨j + 1, by omega, by go_num, Lib.hid (fun q hq hqj => by
              by_cases e : q = j
              · subst e; rw [HX.out]; exact HFX.out
              · exact hall2.out q hq (by omega)), HL2, hM⟩
            case measure => simp [intOf]; omega
        · obtain rfl : j = l.length := by omega
          have HZ := Lib.hid (HMY.out (fun x hx => by
            obtain ⟨q, hq, rfl⟩ := List.getElem_of_mem hx
            exact hall2.out q hq hq))
          go_wp2
          go_roundw
          case rel => exact ⟨k + 1, by omega, by go_num, Lib.hid (fun q hq => by
            by_cases e : q = k
            · rw [e]; exact HZ.out
            · exact hall.out q (by omega)), hM.drop⟩
          case measure => simp [intOf]; omega
    · obtain rfl : k = n := by omega
      have HZ := Lib.hid (mutA_yes hall.out)
      go_wp2
      go_ret
      rw [HZ.out]
      exact ⟨rfl, hM.below⟩
end Go.Proofs.YtcdpdcjdjcbhcaaDoor

