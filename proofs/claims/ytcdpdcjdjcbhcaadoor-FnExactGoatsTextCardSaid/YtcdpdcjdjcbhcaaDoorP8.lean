/-
  Several texts in one: ValidB, GoatOk, BldC, GoatTx, OpenL, ValidGoats, GoatsTold.
-/
import Derived.Test.YtcdpdcjdjcbhcaaDoorP7
import Derived.Test.YtcdpdcjdjcbhcaaDoorP2
import Derived.Lib.OthersKept
import Derived.Shelf.Strings.BuilderK
import Derived.Shelf.Strings.MapGrows
import Derived.Test.YtcdpdcjdjcbhcaaDoorP5
/-
  The document's 'valid' both ways: row by row over all 100 places, or cell by cell over the pasture's own and nothing behind them.
-/
namespace Go.Proofs.YtcdpdcjdjcbhcaaDoor
open Go Go.RowKit

theorem isB_iff {g : Nat → Int} {W H x y : Nat} (hg0 : g 0 = W) (hg1 : g 1 = H) : isB g x y = true ↔ x < W ∧ y < H := by
  simp only [isB, inB, Bool.and_eq_true, decide_eq_true_eq, hg0, hg1]; omega
theorem upto_mem {W H x y : Nat} (h : (x, y) ∈ upto W (W * H)) : x < W ∧ y < H := by
  unfold upto at h
  obtain ⟨i, hi, e⟩ := List.mem_map.1 h
  have hi := List.mem_range.1 hi
  unfold cellAt at e
  have e1 : i % W = x := congrArg Prod.fst e
  have e2 : i / W = y := congrArg Prod.snd e
  have hW : 0 < W := by
    cases W with
    | zero => simp at hi
    | succ n => omega
  exact ⟨by rw [← e1]; exact Nat.mod_lt _ hW, by rw [← e2]; exact Nat.div_lt_of_lt_mul hi⟩

theorem cellOk_iff {g : Nat → Int} {W H x y : Nat} (hg0 : g 0 = W) (hg1 : g 1 = H) : cellOk g y x = true ↔ (0 ≤ g (2 + (y * 10 + x)) ∧ g (2 + (y * 10 + x)) ≤ 1000) ∧ (g (2 + (y * 10 + x)) = 0 ∨ (x < W ∧ y < H)) := by
  have e : 2 + y * 10 + x = 2 + (y * 10 + x) := by omega
  unfold cellOk
  rw [e, Bool.and_eq_true, Bool.or_eq_true, isB_iff hg0 hg1]
  simp only [inB, decide_eq_true_eq]
  omega

theorem cells_grass {g : Nat → Int} {W H : Nat} (hg0 : g 0 = W) (hg1 : g 1 = H) (hW : W ≤ 10) (hH : H ≤ 10) :
    (∀ y, y < 10 → ∀ x, x < 10 → cellOk g y x = true) ↔ grassB g W H = true := by
  unfold grassB
  rw [Bool.and_eq_true, List.all_eq_true, eqTo_iff]
  constructor
  · intro h
    refine ⟨fun s hs => ?_, fun k hk => ?_⟩
    · obtain ⟨x, y⟩ := s
      obtain ⟨hx, hy⟩ := upto_mem hs
      exact inB_yes ((cellOk_iff hg0 hg1).1 (h y (by omega) x (by omega))).1
    · have hx : k % 10 < 10 := Nat.mod_lt _ (by omega)
      have ek : k / 10 * 10 + k % 10 = k := by omega
      have hr := restAt_of (g := g) (l := upto W (W * H)) (x := k % 10) (y := k / 10) hx
      rw [ek] at hr
      rw [hr]
      split
      · rfl
      · rename_i hn
        have hc := ((cellOk_iff hg0 hg1).1 (h (k / 10) (by omega) (k % 10) hx)).2
        rw [ek] at hc
        rcases hc with hc | hc
        · exact hc
        · exact absurd (mem_upto hc.1 hc.2) hn
  · rintro ⟨h1, h2⟩ y hy x hx
    rw [cellOk_iff hg0 hg1]
    by_cases hin : x < W ∧ y < H
    · have := inB_true (h1 _ (mem_upto hin.1 hin.2))
      exact ⟨this, .inr hin⟩
    · have hr := h2 (y * 10 + x) (by omega)
      rw [restAt_of hx, if_neg (fun hm => hin (upto_mem hm))] at hr
      exact ⟨by omega, .inl hr⟩

theorem okB_eq (g : Nat → Int) : okB g = validB g := by
  unfold okB validB
  cases b0 : inB 1 10 (g 0)
  · rfl
  cases b1 : inB 1 10 (g 1)
  · rfl
  have h0 := inB_true b0
  have h1 := inB_true b1
  have hg0 : g 0 = ((g 0).toNat : Int) := by omega
  have hg1 : g 1 = ((g 1).toNat : Int) := by omega
  have key := cells_grass hg0 hg1 (by omega) (by omega)
  simp only [Bool.true_and]
  rw [Bool.eq_iff_iff, Bool.and_eq_true, ← key, List.all_eq_true]
  unfold hurB
  rw [List.all_eq_true]
  constructor
  · intro h
    have h' : ∀ y, y < 10 → (∀ x, x < 10 → cellOk g y x = true) ∧ badE g y = false ∧ badS g y = false := fun y hy => by
      have hr := h y (List.mem_range.2 hy)
      unfold rowOk at hr
      rw [Bool.and_eq_true, Bool.and_eq_true, List.all_eq_true] at hr
      exact ⟨fun x hx => hr.1.1 x (List.mem_range.2 hx), by simpa using hr.1.2, by simpa using hr.2⟩
    exact ⟨fun y hy => (h' y hy).1, fun y hy => by have := h' y (List.mem_range.1 hy); simp [this.2.1, this.2.2]⟩
  · rintro ⟨h1, h2⟩ y hy
    have hy' := List.mem_range.1 hy
    have h3 := h2 y hy
    rw [Bool.and_eq_true] at h3
    unfold rowOk
    rw [Bool.and_eq_true, Bool.and_eq_true, List.all_eq_true]
    exact ⟨⟨fun x hx => h1 y hy' x (List.mem_range.1 hx), h3.1⟩, h3.2⟩
end Go.Proofs.YtcdpdcjdjcbhcaaDoor

/-
  spec.l02Ok, spec.ValidGoats, impl.ValidGoats by contracts.
-/
namespace Go.Proofs.YtcdpdcjdjcbhcaaDoor
open Go Go.RowKit Go.BigFrame

/-- Are goats valid for a pasture? -/
def goatsB (g : Nat → Int) (n : Nat) (hs : Nat → Nat → Int) : Bool := okB g && ((List.range n).all fun i => goatB g (hs i)) && decide (n ≤ 20)
theorem goatsB_ok {g : Nat → Int} {n : Nat} {hs : Nat → Nat → Int} (h : okB g = false) : goatsB g n hs = false := by simp [goatsB, h]
theorem goatsB_no {g : Nat → Int} {n i : Nat} {hs : Nat → Nat → Int} (hi : i < n) (h : goatB g (hs i) = false) : goatsB g n hs = false := by
  have : ((List.range n).all fun i => goatB g (hs i)) = false := by rw [List.all_eq_false]; exact ⟨i, by simpa using hi, by rw [h]; decide⟩
  simp [goatsB, this]
theorem goatsB_yes {g : Nat → Int} {n : Nat} {hs : Nat → Nat → Int} (ho : okB g = true) (h : ∀ i, i < n → goatB g (hs i) = true) : goatsB g n hs = decide (n ≤ 20) := by
  have : ((List.range n).all fun i => goatB g (hs i)) = true := by rw [List.all_eq_true]; intro i hi; exact h i (by simpa using hi)
  simp [goatsB, this, ho]
theorem goatsB_many {g : Nat → Int} {n : Nat} {hs : Nat → Nat → Int} (h : 20 < n) : goatsB g n hs = false := by
  have : decide (n ≤ 20) = false := decide_eq_false (by omega)
  simp [goatsB, this]

end Go.Proofs.YtcdpdcjdjcbhcaaDoor

/-
  A strings.Builder of the call's own: made, written, read.
-/
namespace Go.Proofs.YtcdpdcjdjcbhcaaDoor
open Go Go.RowKit Go.BigFrame Go.Shelf

/-- A builder that was made in the world W0, and holds these bytes. -/
def Bld (W0 : World) (l : List UInt8) (W : World) : Prop := Lib.IsBuilderF 122 5 W0.heap.size W0.heap.size (Lib.byteCells l) W ∧ Below W0.heap.size W0 W
theorem Bld.below {W0 W : World} {l : List UInt8} (h : Bld W0 l W) : Below W0.heap.size W0 W := h.2
theorem Bld.call {W0 W W' : World} {l : List UInt8} (h : Bld W0 l W) (hb : Below W.heap.size W W') : Bld W0 l W' := ⟨Lib.IsBuilderF.below h.1 hb, h.2.trans (hb.mono h.2.size)⟩
theorem zeroBld : (Tryd.prog.info? 122).map (·.zero) = some (some (.agg #[.pointer none, .slice none 0 0])) := by kernel_rfl
theorem wpList_bld {ops : Array Oper} {rest : List Oper} {o : Oper} {a : Act} {W : World} {Q : Exit → Act → World → Prop} (hgd : o.guard = none) (ho : o.op = .alloc 122)
    (h : ∀ W', Bld W [] W' → wpList Tryd.prog ops Q rest (a.put o.dst (.pointer (some ⟨W.heap.size, 0, none⟩))) W') : wpList Tryd.prog ops Q (o :: rest) a W := by
  refine wpList_plain hgd fun K hK => ?_
  have hzv : (zeroValue 122).run Tryd.prog W = .ok (.agg #[.pointer none, .slice none 0 0]) W := by
    have hz := zeroBld
    cases hq : Tryd.prog.info? 122 with
    | none => simp [hq] at hz
    | some i => simp [hq] at hz; simp [zeroValue, typeInfo, hq, hz]
  unfold Oper.wp execOp
  simp only [ho, Instr.alloc, Sem.run_bind, Sem.run_pure, Result.andThen_ok, hzv, newVar, newRow, newObj, Sem.run, Value.cells]
  exact hK _ _ (h _ ⟨Lib.IsBuilderF.of (Lib.fresh_isBuilder _ _ W), (Below.refl _ W).alloc (Nat.le_refl _) _⟩)

theorem bws_any (W0 : World) (l m : List UInt8) (hlen : l.length + m.length ≤ 100000000) (W : World) (h : Bld W0 l W) :
    Calls Tryd.prog 70 #[.pointer (some ⟨W0.heap.size, 0, none⟩), .string (bs m)] W fun e w' => (e = .returned (.tuple #[.int .i64 m.length, .nilIface])) ∧ Bld W0 (l ++ m) w' := by
  have hbl : (Lib.byteCells l).length = l.length := by simp [Lib.byteCells]
  refine (Any.Builder_WriteString_k (P := Tryd.prog) (ρ := Tryd.joinLays_ren) { Tryd.joinLays with } joinExtra W0.heap.size W0.heap.size (Lib.byteCells l) (bs m) W h.1 (by rw [hbl, bs_size]; omega) h.2.size).mono ?_
  rintro e w' ⟨rfl, h1, h2, -⟩
  refine ⟨by rw [bs_size], .inr ?_, h.2.trans h2⟩
  have e : Lib.byteCells l ++ Lib.strCells (bs m) = Lib.byteCells (l ++ m) := by rw [Lib.strCells_eq, bs_data, Lib.byteCells_append]
  rw [e] at h1
  exact h1
theorem bstr_any (W0 : World) (l : List UInt8) (W : World) (h : Bld W0 l W) :
    Calls Tryd.prog 73 #[.pointer (some ⟨W0.heap.size, 0, none⟩)] W fun e w' => e = .returned (.string (bs l)) ∧ Below W0.heap.size W0 w' := by
  refine (Any.Builder_String_any_k (P := Tryd.prog) (ρ := Tryd.joinLays_ren) { Tryd.joinLays with } joinExtra W0.heap.size W0.heap.size l W h.1 h.2.size).mono ?_
  rintro e w' ⟨rfl, -, h2, -⟩
  exact ⟨rfl, h.2.trans h2⟩

theorem wpList_bldM {w : Base} {L : Blocks} {ops : Array Oper} {rest : List Oper} {o : Oper} {a : Act} {W : World} {Q : Exit → Act → World → Prop} (hgd : o.guard = none) (ho : o.op = .alloc 122) (hM : Mem w L W)
    (h : ∀ (W0 : World) (B : Nat) (W' : World), Mem w L W0 → Hid (B = W0.heap.size) → Bld W0 [] W' → wpList Tryd.prog ops Q rest (a.put o.dst (.pointer (some ⟨B, 0, none⟩))) W') : wpList Tryd.prog ops Q (o :: rest) a W :=
  wpList_bld hgd ho fun W' hb => h W W.heap.size W' hM (Lib.hid rfl) hb
theorem bws_at (W0 : World) (B : Nat) (hB : B = W0.heap.size) (l m : List UInt8) (hlen : l.length + m.length ≤ 100000000) (W : World) (h : Bld W0 l W) :
    Calls Tryd.prog 70 #[.pointer (some ⟨B, 0, none⟩), .string (bs m)] W fun e w' => (e = .returned (.tuple #[.int .i64 m.length, .nilIface])) ∧ Bld W0 (l ++ m) w' := by
  subst hB; exact bws_any W0 l m hlen W h
theorem bstr_at (W0 : World) (B : Nat) (hB : B = W0.heap.size) (l : List UInt8) (W : World) (h : Bld W0 l W) :
    Calls Tryd.prog 73 #[.pointer (some ⟨B, 0, none⟩)] W fun e w' => e = .returned (.string (bs l)) ∧ Below W0.heap.size W0 w' := by
  subst hB; exact bstr_any W0 l W h

/-- The first n texts, one behind the other. -/
def catT (f : Nat → List UInt8) (n : Nat) : List UInt8 := ((List.range n).map f).flatten
theorem catT_zero (f : Nat → List UInt8) : catT f 0 = [] := rfl
theorem catT_succ (f : Nat → List UInt8) (n : Nat) : catT f (n + 1) = catT f n ++ f n := by
  unfold catT; rw [List.range_succ, List.map_append, List.flatten_append]; simp
theorem catT_len {f : Nat → List UInt8} {m : Nat} : ∀ n : Nat, (∀ k, k < n → (f k).length ≤ m) → (catT f n).length ≤ n * m
  | 0, _ => by simp [catT_zero]
  | n + 1, h => by
    have ih := catT_len n (fun k hk => h k (by omega))
    have hn := h n (by omega)
    rw [catT_succ, List.length_append, Nat.succ_mul]; omega
end Go.Proofs.YtcdpdcjdjcbhcaaDoor

/-
  The text of a goat; spec.l02Spot, (impl.Goat).tetherText, line by contracts.
-/
namespace Go.Proofs.YtcdpdcjdjcbhcaaDoor
open Go Go.RowKit Go.BigFrame

def tethT (h : Nat → Int) : List UInt8 := if h 4 == -1 then [102, 114, 101, 101] else spotT (h 2) (h 3) ++ [126] ++ numB (h 4)
def likeT (h : Nat → Int) : List UInt8 := if h 6 == 0 then [114, 105, 99, 104] else [110, 101, 97, 114]
def goatW (h : Nat → Int) : List UInt8 := spotT (h 0) (h 1) ++ [32] ++ tethT h ++ [32] ++ numB (h 5) ++ [32] ++ likeT h ++ [10]
def goatsA (n : Nat) (hs : Nat → Nat → Int) : Bool := decide (n ≤ 20) && (List.range n).all fun i => toldB gMost (hs i)
def goatsT (n : Nat) (hs : Nat → Nat → Int) : List UInt8 := if goatsA n hs then catT (fun k => goatW (hs k)) n else []
theorem goatsA_no {n k : Nat} {hs : Nat → Nat → Int} (hk : k < n) (h : toldB gMost (hs k) = false) : goatsA n hs = false := by
  have : ((List.range n).all fun i => toldB gMost (hs i)) = false := by rw [List.all_eq_false]; exact ⟨k, by simpa using hk, by rw [h]; decide⟩
  unfold goatsA; rw [this, Bool.and_false]
theorem goatsA_many {n : Nat} {hs : Nat → Nat → Int} (h : 20 < n) : goatsA n hs = false := by
  unfold goatsA; rw [decide_eq_false (by omega)]; rfl
theorem goatsA_all {n : Nat} {hs : Nat → Nat → Int} (h : ∀ k, k < n → toldB gMost (hs k) = true) : goatsA n hs = decide (n ≤ 20) := by
  have : ((List.range n).all fun i => toldB gMost (hs i)) = true := by rw [List.all_eq_true]; intro i hi; exact h i (by simpa using hi)
  unfold goatsA; rw [this, Bool.and_true]
theorem goatsA_told {n : Nat} {hs : Nat → Nat → Int} (h : goatsA n hs = true) : n ≤ 20 ∧ ∀ k, k < n → toldB gMost (hs k) = true := by
  unfold goatsA at h
  simp only [Bool.and_eq_true, List.all_eq_true, List.mem_range, decide_eq_true_eq] at h
  exact h
theorem goatsT_no {n : Nat} {hs : Nat → Nat → Int} (h : goatsA n hs = false) : goatsT n hs = [] := by unfold goatsT; rw [h]; rfl
theorem goatsT_yes {n : Nat} {hs : Nat → Nat → Int} (h : goatsA n hs = true) : goatsT n hs = catT (fun k => goatW (hs k)) n := by unfold goatsT; rw [h]; rfl
theorem told_spec (h : Nat → Int) : toldB gMost h = (plainG h && inB 0 9 (h 0) && inB 0 9 (h 1) && inB 0 9 (h 2) && inB 0 9 (h 3)) := by
  unfold toldB plainG dietB told0
  rw [isB_most, isB_most]
  cases inB 0 9 (h 0)
  · simp
  cases inB 0 9 (h 1)
  · simp
  cases inB 0 9 (h 2)
  · simp
  cases inB 0 9 (h 3)
  · simp
  cases inB 0 100 (h 5)
  · simp
  cases inB 0 1 (h 6)
  · simp
  cases (h 2 == 0 && h 3 == 0) <;> unfold inB <;> rw [Bool.eq_iff_iff] <;> simp <;> omega
structure ToldM (h : Nat → Int) : Prop where
  x0 : 0 ≤ h 0 ∧ h 0 ≤ 9
  x1 : 0 ≤ h 1 ∧ h 1 ≤ 9
  x2 : 0 ≤ h 2 ∧ h 2 ≤ 9
  x3 : 0 ≤ h 3 ∧ h 3 ≤ 9
  rope : -1 ≤ h 4 ∧ h 4 ≤ 200
  eats : 0 ≤ h 5 ∧ h 5 ≤ 100
  like : 0 ≤ h 6 ∧ h 6 ≤ 1
theorem told_most {h : Nat → Int} (ht : toldB gMost h = true) : ToldM h := by
  rw [told_spec] at ht
  unfold plainG at ht
  simp only [Bool.and_eq_true] at ht
  obtain ⟨⟨⟨⟨⟨⟨⟨a, b⟩, c⟩, -⟩, d⟩, e⟩, f⟩, g⟩ := ht
  exact ⟨inB_true d, inB_true e, inB_true f, inB_true g, inB_true a, inB_true b, inB_true c⟩
theorem tethT_len {h : Nat → Int} (ht : ToldM h) : (tethT h).length ≤ 32 := by
  have h2 := ht.x2; have h3 := ht.x3; have h4 := ht.rope
  have := numB_len (n := h 4) (by omega)
  have := spotT_len (x := h 2) (y := h 3) (by omega) (by omega)
  unfold tethT; split <;> simp <;> omega
theorem likeT_len {h : Nat → Int} : (likeT h).length = 4 := by unfold likeT; split <;> rfl
theorem goatW_len {h : Nat → Int} (ht : ToldM h) : (goatW h).length ≤ 80 := by
  have h0 := ht.x0; have h1 := ht.x1; have h5 := ht.eats
  have := numB_len (n := h 5) (by omega)
  have := spotT_len (x := h 0) (y := h 1) (by omega) (by omega)
  have := tethT_len ht
  have := likeT_len (h := h)
  simp [goatW]; omega

/-- The names of what goats like. -/
def likeN (k : Nat) : List UInt8 := if k = 0 then [114, 105, 99, 104] else [110, 101, 97, 114]
def TabL (W : World) : Prop := ∀ k, k < 2 → W.cell? ⟨0, k, none⟩ = some (.string (bs (likeN k)))
theorem TabL.below {W W' : World} (h : TabL W) (hb : Below W.heap.size W W') : TabL W' := fun k hk => by
  rw [hb.cell (p := ⟨0, k, none⟩) (block_lt_of_cell (h k hk))]; exact h k hk

set_option maxRecDepth 100000 in
set_option maxHeartbeats 1000000 in
theorem l02Spot_any (x y : Int) (hx : 0 ≤ x ∧ x ≤ 127) (hy : 0 ≤ y ∧ y ≤ 127) (w : World) :
    Calls Tryd.prog 110 #[.agg (arr 2 (sp x y))] w fun e w' => e = .returned (.string (bs (spotT x y))) ∧ Below w.heap.size w w' := by
  have hM := Mem.nil w
  have e0 : sp x y 0 = .int .i8 x := rfl
  have e1 : sp x y 1 = .int .i8 y := rfl
  have cx : IntKind.i64.wrap x = x := IntWalk.i64_in _ (by omega)
  have cy : IntKind.i64.wrap y = y := IntWalk.i64_in _ (by omega)
  have lx := numB_len (n := x) (by omega)
  have ly := numB_len (n := y) (by omega)
  have HX := Lib.hid (fun (W : World) => Decimal_any x hx.1 (by omega) W)
  have HY := Lib.hid (fun (W : World) => Decimal_any y hy.1 (by omega) W)
  obtain ⟨u, hu⟩ : ∃ u, numB x = u := ⟨_, rfl⟩
  obtain ⟨v, hv⟩ : ∃ v, numB y = v := ⟨_, rfl⟩
  have hr : spotT x y = u ++ [44] ++ v := by unfold spotT; rw [hu, hv]
  rw [hr]
  rw [hu] at HX lx
  rw [hv] at HY ly
  clear hu hv hr
  have tk_b1 : True := trivial
  go_enter Tryd.func110, Tryd.ntmps110
  go_wp2_with (first | (have _t := tk_b1; refine wpList_box rfl _ _ rfl _ _ rfl hM ?_; intro b1 W' hb1 hM'; clear hM tk_b1; have hM := hM'; clear hM'))
  ((try simp only [Act.put, List.setIfInBounds_toArray, List.set_cons_succ, List.set_cons_zero]); refine wp_region_mem (by kernel_rfl) (by kernel_rfl) hM ?_; clear hM; (repeat (first | go_big_quiet_skip | (go_big_quiet_want; first | (refine quiet_get1 _ _ rfl _ _ rfl 0 rfl (cellTab _ rfl) (by omega) _ (e0) ?_; (simp only [Act.put, List.setIfInBounds_toArray, List.set_cons_succ, List.set_cons_zero]); go_big_quiet_on) | (refine quiet_get1 _ _ rfl _ _ rfl 0 rfl (cellTab _ rfl) (by omega) _ (e1) ?_; (simp only [Act.put, List.setIfInBounds_toArray, List.set_cons_succ, List.set_cons_zero]); go_big_quiet_on) | (refine quiet_call ?_; apply Exists.intro; apply Exists.intro; apply Exists.intro; refine ⟨fun W => ?_, fun W hM => ?_, ?_⟩; (go_simp; exact ⟨rfl, rfl⟩); (with_reducible exact HX.out W); (simp only [Act.put, List.setIfInBounds_toArray, List.set_cons_succ, List.set_cons_zero]); go_big_quiet_on) | (refine quiet_call ?_; apply Exists.intro; apply Exists.intro; apply Exists.intro; refine ⟨fun W => ?_, fun W hM => ?_, ?_⟩; (go_simp; exact ⟨rfl, rfl⟩); (with_reducible exact HY.out W); (simp only [Act.put, List.setIfInBounds_toArray, List.set_cons_succ, List.set_cons_zero]); go_big_quiet_on) | (refine quiet_val ⟨_, fun W => cat_op _ _ rfl _ _ rfl rfl (by simp only [List.length_append, List.length_cons, List.length_nil]; omega) W, ?_⟩; (simp only [Act.put, List.setIfInBounds_toArray, List.set_cons_succ, List.set_cons_zero]); go_big_quiet_on) | (refine quiet_val ?_; apply Exists.intro; refine ⟨fun W => ?_, ?_⟩; (go_simp; (try simp only [cx, cy, if_true, Bool.false_eq_true, if_false]); rfl); (simp only [Act.put, List.setIfInBounds_toArray, List.set_cons_succ, List.set_cons_zero]); go_big_quiet_on)))); (with_reducible refine wpQuiet_nil ?_); intro W' hM)
  go_wp2
  go_ret
  exact ⟨ret_bs (l := u ++ 44 :: v) (by simp), hM.below⟩

set_option maxRecDepth 100000 in
set_option maxHeartbeats 1000000 in
theorem tetherText_any (h : Nat → Int) (ht : ToldM h) (w : World) (hT : TabP w) :
    Calls Tryd.prog 112 #[.agg (arr 7 (gt h))] w fun e w' => e = .returned (.string (bs (tethT h))) ∧ Below w.heap.size w w' := by
  have hM := Mem.nil w
  have h2 := ht.x2
  have h3 := ht.x3
  have h4 := ht.rope
  have HT := Lib.hid hT
  have eg : arr 7 (fun j => gt h (0 + j)) = arr 7 (gt h) := arr_congr fun j hj => by rw [Nat.zero_add]
  clear hT ht
  have tk_b1 : True := trivial; have tk_q1 : True := trivial
  by_cases hq : h 4 = -1
  · have hp : tethT h = [102, 114, 101, 101] := by unfold tethT; rw [hq]; rfl
    have HF : Hid ((h 4 == -1) = true) := Lib.hid (by simp [hq])
    rw [hp]
    clear hp hq
    go_enter Tryd.func112, Tryd.ntmps112
    go_wp2_with (first | (have _t := tk_b1; refine wpList_box rfl _ _ rfl _ _ rfl hM ?_; intro b1 W' hb1 hM'; clear hM tk_b1; have hM := hM'; clear hM') | (have _t := tk_q1; (refine wpList_get rfl _ _ rfl _ _ rfl hM 0 rfl (rowTab _ _ rfl) (by omega) ?_); rw [eg]; clear tk_q1) | (go_at_call 129; (with_reducible refine (isFree_any h _).mono ?_); rintro e W' ⟨rfl, hb'⟩; rw [HF.out]; have hM' := hM.call hb'; clear hM hb'; have hM := hM'; clear hM'))
    go_ret
    exact ⟨rfl, hM.below⟩
  · have hp : tethT h = spotT (h 2) (h 3) ++ [126] ++ numB (h 4) := by unfold tethT; rw [if_neg (by simpa using hq)]
    have HF : Hid ((h 4 == -1) = false) := Lib.hid (by simp [hq])
    rw [hp]
    have e4 : gt h 4 = .int .i16 (h 4) := rfl
    have e2 : arr 2 (fun j => gt h (2 + j)) = arr 2 (sp (h 2) (h 3)) := arr_congr fun j hj => by
      rcases (show j = 0 ∨ j = 1 by omega) with rfl | rfl <;> rfl
    have c4 : IntKind.i64.wrap (h 4) = h 4 := IntWalk.i64_in _ (by omega)
    have lx := spotT_len (x := h 2) (y := h 3) (by omega) (by omega)
    have ly := numB_len (n := h 4) (by omega)
    have HX := Lib.hid (fun (W : World) (hT : TabP W) => spotText_any (h 2) (h 3) ⟨h2.1, by omega⟩ ⟨h3.1, by omega⟩ W hT)
    have HY := Lib.hid (fun (W : World) (hT : TabP W) => fmt_any (h 4) (by omega) (by omega) W hT)
    obtain ⟨u, hu⟩ : ∃ u, spotT (h 2) (h 3) = u := ⟨_, rfl⟩
    obtain ⟨v, hv⟩ : ∃ v, numB (h 4) = v := ⟨_, rfl⟩
    rw [hu] at HX lx
    rw [hv] at HY ly
    rw [hu, hv]
    clear hu hv hp hq
    go_enter Tryd.func112, Tryd.ntmps112
    go_wp2_with (first | (have _t := tk_b1; refine wpList_box rfl _ _ rfl _ _ rfl hM ?_; intro b1 W' hb1 hM'; clear hM tk_b1; have hM := hM'; clear hM') | (have _t := tk_q1; (refine wpList_get rfl _ _ rfl _ _ rfl hM 0 rfl (rowTab _ _ rfl) (by omega) ?_); rw [eg]; clear tk_q1) | (go_at_call 129; (with_reducible refine (isFree_any h _).mono ?_); rintro e W' ⟨rfl, hb'⟩; rw [HF.out]; have hM' := hM.call hb'; clear hM hb'; have hM := hM'; clear hM'))
    ((try simp only [Act.put, List.setIfInBounds_toArray, List.set_cons_succ, List.set_cons_zero]); refine wp_region_mem (by kernel_rfl) (by kernel_rfl) hM ?_; clear hM; (repeat (first | go_big_quiet_skip | (go_big_quiet_want; first | (refine quiet_get1 _ _ rfl _ _ rfl 0 rfl (cellTab _ rfl) (by omega) _ (e4) ?_; (simp only [Act.put, List.setIfInBounds_toArray, List.set_cons_succ, List.set_cons_zero]); go_big_quiet_on) | (refine quiet_get _ _ rfl _ _ rfl 0 rfl (rowTab _ 2 rfl) (by omega) ?_; rw [e2]; (simp only [Act.put, List.setIfInBounds_toArray, List.set_cons_succ, List.set_cons_zero]); go_big_quiet_on) | (refine quiet_call ?_; apply Exists.intro; apply Exists.intro; apply Exists.intro; refine ⟨fun W => ?_, fun W hM => ?_, ?_⟩; (go_simp; exact ⟨rfl, rfl⟩); (with_reducible exact HX.out W (HT.out.below hM.below)); (simp only [Act.put, List.setIfInBounds_toArray, List.set_cons_succ, List.set_cons_zero]); go_big_quiet_on) | (refine quiet_call ?_; apply Exists.intro; apply Exists.intro; apply Exists.intro; refine ⟨fun W => ?_, fun W hM => ?_, ?_⟩; (go_simp; exact ⟨rfl, rfl⟩); (with_reducible exact HY.out W (HT.out.below hM.below)); (simp only [Act.put, List.setIfInBounds_toArray, List.set_cons_succ, List.set_cons_zero]); go_big_quiet_on) | (refine quiet_val ⟨_, fun W => cat_op _ _ rfl _ _ rfl rfl (by simp only [List.length_append, List.length_cons, List.length_nil]; omega) W, ?_⟩; (simp only [Act.put, List.setIfInBounds_toArray, List.set_cons_succ, List.set_cons_zero]); go_big_quiet_on) | (refine quiet_val ?_; apply Exists.intro; refine ⟨fun W => ?_, ?_⟩; (go_simp; (try simp only [c4, if_true, Bool.false_eq_true, if_false]); rfl); (simp only [Act.put, List.setIfInBounds_toArray, List.set_cons_succ, List.set_cons_zero]); go_big_quiet_on)))); (with_reducible refine wpQuiet_nil ?_); intro W' hM)
    go_wp2
    go_ret
    exact ⟨ret_bs (by simp), hM.below⟩
end Go.Proofs.YtcdpdcjdjcbhcaaDoor

/-
  What GoatsText's row takes out of its condition: the table of powers, the names.
-/
namespace Go.Proofs.YtcdpdcjdjcbhcaaDoor
open Go Go.RowKit Go.ChangeShapes Go.WideShapes Go.ChangeAt

theorem tabL_of {W : World} {g : Nat} {t : TypeId} {cs : Array Value} {fuel : Nat} {p : List MemPlace}
    (hg0 : Tryd.prog.globalNamed "loop.example/g01345/impl.likeNames" = some g) (ht0 : (Tryd.prog.globals[g]?).map (·.type) = some t) (hv0 : W.var? Tryd.prog "loop.example/g01345/impl.likeNames" = some cs)
    (hd0 : DataW.trod (fun _ => ()) Tryd.prog W 0 (fun _ => true) false fuel t cs.toList = some (Rows.laid_loop_example_g01345_impl_likeNames, p)) : TabL W := by
  obtain rfl := Option.some.inj ((show Tryd.prog.globalNamed "loop.example/g01345/impl.likeNames" = some 0 by kernel_rfl).symm.trans hg0)
  obtain rfl := Option.some.inj ((show (Tryd.prog.globals[0]?).map (·.type) = some 176 by kernel_rfl).symm.trans ht0)
  obtain ⟨xs, m1, -, hx1, hlen, hn, hel⟩ := DataW.trod_array Tryd.underlying176 hd0
  have c9 : Tryd.prog.cellsOf 9 = 1 := by kernel_rfl
  rw [c9] at hel
  simp only [Prod.mk.injEq] at hx1
  have hd := hx1.1
  have hlx : xs.length = 2 := by
    have := congrArg (fun d => match d with | DataW.agg l => l.length | _ => 0) hd
    simpa [Rows.laid_loop_example_g01345_impl_likeNames] using this.symm
  intro k hk
  have hc := World.var?_cell hg0 hv0 k
  rw [hc]
  obtain ⟨x, hx⟩ : ∃ x, xs[k]? = some x := ⟨xs[k]'(by omega), List.getElem?_eq_getElem (by omega)⟩
  have h1 := hel k hk
  rw [hx] at h1
  obtain ⟨s, e1, rfl, -⟩ := DataW.trod_string Tryd.underlying9 h1
  have hcs : cs[k]? = some (.string s) := by
    have := congrArg (fun l => l[0]?) e1
    simpa [List.getElem?_take, List.getElem?_drop] using this
  rw [hcs]
  have hk2 : (xs.map (·.1))[k]? = some (.lit (.string s.data.toList)) := by simp [hx]
  have hs : s.data.toList = likeN k := by
    simp only [Rows.laid_loop_example_g01345_impl_likeNames, DataW.agg.injEq] at hd
    rw [← hd] at hk2
    have : k = 0 ∨ k = 1 := by omega
    rcases this with rfl | rfl <;> (simp at hk2; simp [likeN, ← hk2])
  rw [← hs]
  rfl
theorem one1_of {α : Type} {l : List α} (h : l.length = 1) : ∃ x, l = [x] := by
  match l, h with
  | [x], _ => exact ⟨x, rfl⟩
theorem tabPL_of_laid {W : World} (h : laidMetH Tryd.prog Rows.fnExactGoatsTextRow.laid W) : TabP W ∧ TabL W := by
  rw [MakeChecks.laidMetH_plain _ _ _ (by kernel_rfl)] at h
  refine ⟨tabP_of_list h, ?_⟩
  obtain ⟨ps, ⟨gT, tT, csT, fT, pT, qT, hgT, htT, hvT, hdT, -⟩, -⟩ := h.tail.tail.tail
  exact tabL_of hgT htT hvT hdT
end Go.Proofs.YtcdpdcjdjcbhcaaDoor

/-
  spec.ValidGoats and impl.ValidGoats by contracts.
-/
namespace Go.Proofs.YtcdpdcjdjcbhcaaDoor
open Go Go.RowKit Go.BigFrame

theorem pas_0 (g : Nat → Int) : arr 122 (fun k => pas g (0 + k)) = arr 122 (pas g) := arr_congr fun k _ => by rw [Nat.zero_add]
theorem lay_goat (z : Nat → Value) (hs : Nat → Nat → Int) (k : Nat) : ∀ j, j < 7 → lay z 0 7 (fun i => gts hs (k * 7 + i)) j = gt (hs k) j := fun j hj => by
  simp only [lay, Nat.zero_add, Nat.sub_zero]
  rw [if_pos ⟨by omega, hj⟩]
  exact gts_row hs k j hj
theorem isToldFor_of (g h : Nat → Int) (hF : FitsG h) (f : Nat → Value) (hf : ∀ j, j < 7 → f j = gt h j) (w : World) :
    Calls Tryd.prog 111 #[.agg (arr 7 f), .agg (arr 122 (pas g))] w fun e w' => e = .returned (.bool (toldB g h)) ∧ Below w.heap.size w w' := by
  rw [arr_congr hf]; exact isToldFor_any g h hF w
end Go.Proofs.YtcdpdcjdjcbhcaaDoor

/-
  spec.l02Told, l02Text, GoatsText by contracts.
-/
namespace Go.Proofs.YtcdpdcjdjcbhcaaDoor
open Go Go.RowKit Go.BigFrame

set_option maxRecDepth 100000 in
set_option maxHeartbeats 8000000 in
theorem l02Told_any (b n c : Nat) (hs : Nat → Nat → Int) (hF : ∀ i, i < n → FitsG (hs i)) (hn : n ≤ 1048576) (w : World) (hB : At w b (n * 7) (gts hs)) :
    Calls Tryd.prog 74 #[.slice (some ⟨b, 0, none⟩) n c] w fun e w' => e = .returned (.bool (goatsA n hs)) ∧ Below w.heap.size w w' := by
  have hM : Mem w [(b, n * 7, gts hs)] w := (Mem.nil w).old hB (fun i p h => by simp at h)
  have HF := Lib.hid hF
  clear hF hB
  go_enter Tryd.func74, Tryd.ntmps74
  go_wp2
  go_loopw [3] (fun i wr => ∃ k : Nat, k ≤ n ∧ i = .int .i64 k ∧ Hid (∀ j, j < k → toldB gMost (hs j) = true) ∧ Mem w [(b, n * 7, gts hs)] wr) (fun i _ => n - (intOf i).toNat)
  case atStart => exact ⟨0, by omega, rfl, Lib.hid (fun j hj => absurd hj (by omega)), hM⟩
  case round =>
    clear hM
    obtain ⟨k, hk, rfl, hall, hM⟩ := hrel
    by_cases hlt : k < n
    · have l2 : (k : Int) < n := by omega
      have fk := HF.out k hlt
      have e0 : gt (hs k) 0 = .int .i8 (hs k 0) := rfl
      have e1 : gt (hs k) 1 = .int .i8 (hs k 1) := rfl
      have e2 : gt (hs k) 2 = .int .i8 (hs k 2) := rfl
      have e3 : gt (hs k) 3 = .int .i8 (hs k 3) := rfl
      have c0 : IntKind.i64.wrap (hs k 0) = hs k 0 := IntWalk.i64_in _ (by have := fk.lo 0 (by omega); omega)
      have c1 : IntKind.i64.wrap (hs k 1) = hs k 1 := IntWalk.i64_in _ (by have := fk.lo 1 (by omega); omega)
      have c2 : IntKind.i64.wrap (hs k 2) = hs k 2 := IntWalk.i64_in _ (by have := fk.lo 2 (by omega); omega)
      have c3 : IntKind.i64.wrap (hs k 3) = hs k 3 := IntWalk.i64_in _ (by have := fk.lo 3 (by omega); omega)
      have HS := Lib.hid (told_spec (hs k))
      obtain ⟨q0, hq0⟩ : ∃ q, inB 0 9 (hs k 0) = q := ⟨_, rfl⟩
      obtain ⟨q1, hq1⟩ : ∃ q, inB 0 9 (hs k 1) = q := ⟨_, rfl⟩
      obtain ⟨q2, hq2⟩ : ∃ q, inB 0 9 (hs k 2) = q := ⟨_, rfl⟩
      obtain ⟨q3, hq3⟩ : ∃ q, inB 0 9 (hs k 3) = q := ⟨_, rfl⟩
      obtain ⟨pl, hpl⟩ : ∃ q, plainG (hs k) = q := ⟨_, rfl⟩
      have HQ0 := Lib.hid (fun (W : World) => l00In_any (hs k 0) 0 9 W)
      have HQ1 := Lib.hid (fun (W : World) => l00In_any (hs k 1) 0 9 W)
      have HQ2 := Lib.hid (fun (W : World) => l00In_any (hs k 2) 0 9 W)
      have HQ3 := Lib.hid (fun (W : World) => l00In_any (hs k 3) 0 9 W)
      have HPl := Lib.hid (fun (b3 : Nat) (W : World) (hA : At W b3 7 (gt (hs k))) => l02Plain_any (hs k) fk b3 7 0 (gt (hs k)) (fun j _ => congrArg (gt (hs k)) (Nat.zero_add j)) (by omega) W hA)
      rw [hq0] at HQ0
      rw [hq1] at HQ1
      rw [hq2] at HQ2
      rw [hq3] at HQ3
      rw [hpl] at HPl
      have HR : Hid (toldB gMost (hs k) = (pl && q0 && q1 && q2 && q3)) := Lib.hid (by rw [HS.out, hpl, hq0, hq1, hq2, hq3])
      clear hq0 hq1 hq2 hq3 hpl HS
      cases pl
      · have Hp := Lib.hid (goatsA_no hlt (HR.out.trans (by simp)))
        have tk_b3 : True := trivial; have tk_r1 : True := trivial; have tk_r2 : True := trivial
        go_wp2_with (first | (go_at_call 109; (with_reducible refine (HPl.out b3 _ (hM.ats 0 _ _ _ rfl)).mono ?_); rintro e W' ⟨rfl, hb'⟩; have hM' := hM.call hb'; clear hM hb'; have hM := hM'; clear hM') | (go_at_call 93; (with_reducible refine (HQ0.out _).mono ?_); rintro e W' ⟨rfl, hb'⟩; have hM' := hM.call hb'; clear hM hb'; have hM := hM'; clear hM') | (go_at_call 93; (with_reducible refine (HQ1.out _).mono ?_); rintro e W' ⟨rfl, hb'⟩; have hM' := hM.call hb'; clear hM hb'; have hM := hM'; clear hM') | (go_at_call 93; (with_reducible refine (HQ2.out _).mono ?_); rintro e W' ⟨rfl, hb'⟩; have hM' := hM.call hb'; clear hM hb'; have hM := hM'; clear hM') | (go_at_call 93; (with_reducible refine (HQ3.out _).mono ?_); rintro e W' ⟨rfl, hb'⟩; have hM' := hM.call hb'; clear hM hb'; have hM := hM'; clear hM') | (have _t := tk_r1; (refine wpList_get rfl _ _ rfl _ _ rfl hM 0 rfl (rowTab _ _ rfl) (by omega) ?_); clear tk_r1) | (have _t := tk_b3; refine wpList_zero rfl _ rfl (zeroTab _ _ _ rfl) hM ?_; intro b3 W' hb3 hM'; clear hM tk_b3; have hM := hM'; clear hM') | (have _t := tk_r2; (refine wpList_lay rfl _ _ _ rfl _ _ rfl _ _ rfl hM 0 rfl (by assumption) (rowTab _ _ rfl) (by omega) ?_ ?_; (first | (intro _ _; rfl) | (intro k _; exact h1 _) | (intro k _; simp only [lay, upd]; (repeat' split) <;> first | exact h1 _ | rfl)); intro W' hM'; clear hM; have hM := hM'; clear hM'; simp only [List.set] at hM); have hM1 := hM.re 0 rfl (gt (hs k)) (fun j hj => lay_goat _ hs k j hj); simp only [List.set_cons_zero] at hM1; clear hM; have hM := hM1; clear hM1; clear tk_r2))
        go_ret
        exact ⟨ret_bool Hp.out.symm, hM.below⟩
      cases q0
      · have Hp := Lib.hid (goatsA_no hlt (HR.out.trans (by simp)))
        have tk_b3 : True := trivial; have tk_r1 : True := trivial; have tk_r2 : True := trivial
        go_wp2_with (first | (go_at_call 109; (with_reducible refine (HPl.out b3 _ (hM.ats 0 _ _ _ rfl)).mono ?_); rintro e W' ⟨rfl, hb'⟩; have hM' := hM.call hb'; clear hM hb'; have hM := hM'; clear hM') | (go_at_call 93; (with_reducible refine (HQ0.out _).mono ?_); rintro e W' ⟨rfl, hb'⟩; have hM' := hM.call hb'; clear hM hb'; have hM := hM'; clear hM') | (go_at_call 93; (with_reducible refine (HQ1.out _).mono ?_); rintro e W' ⟨rfl, hb'⟩; have hM' := hM.call hb'; clear hM hb'; have hM := hM'; clear hM') | (go_at_call 93; (with_reducible refine (HQ2.out _).mono ?_); rintro e W' ⟨rfl, hb'⟩; have hM' := hM.call hb'; clear hM hb'; have hM := hM'; clear hM') | (go_at_call 93; (with_reducible refine (HQ3.out _).mono ?_); rintro e W' ⟨rfl, hb'⟩; have hM' := hM.call hb'; clear hM hb'; have hM := hM'; clear hM') | (refine wpList_gget1 ?_ _ _ rfl _ _ rfl hM 0 rfl (cellTab _ rfl) (by omega) _ e0 ?_; kernel_rfl) | (have _t := tk_r1; (refine wpList_get rfl _ _ rfl _ _ rfl hM 0 rfl (rowTab _ _ rfl) (by omega) ?_); clear tk_r1) | (have _t := tk_b3; refine wpList_zero rfl _ rfl (zeroTab _ _ _ rfl) hM ?_; intro b3 W' hb3 hM'; clear hM tk_b3; have hM := hM'; clear hM') | (have _t := tk_r2; (refine wpList_lay rfl _ _ _ rfl _ _ rfl _ _ rfl hM 0 rfl (by assumption) (rowTab _ _ rfl) (by omega) ?_ ?_; (first | (intro _ _; rfl) | (intro k _; exact h1 _) | (intro k _; simp only [lay, upd]; (repeat' split) <;> first | exact h1 _ | rfl)); intro W' hM'; clear hM; have hM := hM'; clear hM'; simp only [List.set] at hM); have hM1 := hM.re 0 rfl (gt (hs k)) (fun j hj => lay_goat _ hs k j hj); simp only [List.set_cons_zero] at hM1; clear hM; have hM := hM1; clear hM1; clear tk_r2))
        go_ret
        exact ⟨ret_bool Hp.out.symm, hM.below⟩
      cases q1
      · have Hp := Lib.hid (goatsA_no hlt (HR.out.trans (by simp)))
        have tk_b3 : True := trivial; have tk_r1 : True := trivial; have tk_r2 : True := trivial
        go_wp2_with (first | (go_at_call 109; (with_reducible refine (HPl.out b3 _ (hM.ats 0 _ _ _ rfl)).mono ?_); rintro e W' ⟨rfl, hb'⟩; have hM' := hM.call hb'; clear hM hb'; have hM := hM'; clear hM') | (go_at_call 93; (with_reducible refine (HQ0.out _).mono ?_); rintro e W' ⟨rfl, hb'⟩; have hM' := hM.call hb'; clear hM hb'; have hM := hM'; clear hM') | (go_at_call 93; (with_reducible refine (HQ1.out _).mono ?_); rintro e W' ⟨rfl, hb'⟩; have hM' := hM.call hb'; clear hM hb'; have hM := hM'; clear hM') | (go_at_call 93; (with_reducible refine (HQ2.out _).mono ?_); rintro e W' ⟨rfl, hb'⟩; have hM' := hM.call hb'; clear hM hb'; have hM := hM'; clear hM') | (go_at_call 93; (with_reducible refine (HQ3.out _).mono ?_); rintro e W' ⟨rfl, hb'⟩; have hM' := hM.call hb'; clear hM hb'; have hM := hM'; clear hM') | (refine wpList_gget1 ?_ _ _ rfl _ _ rfl hM 0 rfl (cellTab _ rfl) (by omega) _ e0 ?_; kernel_rfl) | (refine wpList_gget1 ?_ _ _ rfl _ _ rfl hM 0 rfl (cellTab _ rfl) (by omega) _ e1 ?_; kernel_rfl) | (have _t := tk_r1; (refine wpList_get rfl _ _ rfl _ _ rfl hM 0 rfl (rowTab _ _ rfl) (by omega) ?_); clear tk_r1) | (have _t := tk_b3; refine wpList_zero rfl _ rfl (zeroTab _ _ _ rfl) hM ?_; intro b3 W' hb3 hM'; clear hM tk_b3; have hM := hM'; clear hM') | (have _t := tk_r2; (refine wpList_lay rfl _ _ _ rfl _ _ rfl _ _ rfl hM 0 rfl (by assumption) (rowTab _ _ rfl) (by omega) ?_ ?_; (first | (intro _ _; rfl) | (intro k _; exact h1 _) | (intro k _; simp only [lay, upd]; (repeat' split) <;> first | exact h1 _ | rfl)); intro W' hM'; clear hM; have hM := hM'; clear hM'; simp only [List.set] at hM); have hM1 := hM.re 0 rfl (gt (hs k)) (fun j hj => lay_goat _ hs k j hj); simp only [List.set_cons_zero] at hM1; clear hM; have hM := hM1; clear hM1; clear tk_r2))
        go_ret
        exact ⟨ret_bool Hp.out.symm, hM.below⟩
      cases q2
      · have Hp := Lib.hid (goatsA_no hlt (HR.out.trans (by simp)))
        have tk_b3 : True := trivial; have tk_r1 : True := trivial; have tk_r2 : True := trivial
        go_wp2_with (first | (go_at_call 109; (with_reducible refine (HPl.out b3 _ (hM.ats 0 _ _ _ rfl)).mono ?_); rintro e W' ⟨rfl, hb'⟩; have hM' := hM.call hb'; clear hM hb'; have hM := hM'; clear hM') | (go_at_call 93; (with_reducible refine (HQ0.out _).mono ?_); rintro e W' ⟨rfl, hb'⟩; have hM' := hM.call hb'; clear hM hb'; have hM := hM'; clear hM') | (go_at_call 93; (with_reducible refine (HQ1.out _).mono ?_); rintro e W' ⟨rfl, hb'⟩; have hM' := hM.call hb'; clear hM hb'; have hM := hM'; clear hM') | (go_at_call 93; (with_reducible refine (HQ2.out _).mono ?_); rintro e W' ⟨rfl, hb'⟩; have hM' := hM.call hb'; clear hM hb'; have hM := hM'; clear hM') | (go_at_call 93; (with_reducible refine (HQ3.out _).mono ?_); rintro e W' ⟨rfl, hb'⟩; have hM' := hM.call hb'; clear hM hb'; have hM := hM'; clear hM') | (refine wpList_gget1 ?_ _ _ rfl _ _ rfl hM 0 rfl (cellTab _ rfl) (by omega) _ e0 ?_; kernel_rfl) | (refine wpList_gget1 ?_ _ _ rfl _ _ rfl hM 0 rfl (cellTab _ rfl) (by omega) _ e1 ?_; kernel_rfl) | (refine wpList_gget1 ?_ _ _ rfl _ _ rfl hM 0 rfl (cellTab _ rfl) (by omega) _ e2 ?_; kernel_rfl) | (have _t := tk_r1; (refine wpList_get rfl _ _ rfl _ _ rfl hM 0 rfl (rowTab _ _ rfl) (by omega) ?_); clear tk_r1) | (have _t := tk_b3; refine wpList_zero rfl _ rfl (zeroTab _ _ _ rfl) hM ?_; intro b3 W' hb3 hM'; clear hM tk_b3; have hM := hM'; clear hM') | (have _t := tk_r2; (refine wpList_lay rfl _ _ _ rfl _ _ rfl _ _ rfl hM 0 rfl (by assumption) (rowTab _ _ rfl) (by omega) ?_ ?_; (first | (intro _ _; rfl) | (intro k _; exact h1 _) | (intro k _; simp only [lay, upd]; (repeat' split) <;> first | exact h1 _ | rfl)); intro W' hM'; clear hM; have hM := hM'; clear hM'; simp only [List.set] at hM); have hM1 := hM.re 0 rfl (gt (hs k)) (fun j hj => lay_goat _ hs k j hj); simp only [List.set_cons_zero] at hM1; clear hM; have hM := hM1; clear hM1; clear tk_r2))
        go_ret
        exact ⟨ret_bool Hp.out.symm, hM.below⟩
      cases q3
      · have Hp := Lib.hid (goatsA_no hlt (HR.out.trans (by simp)))
        have tk_b3 : True := trivial; have tk_r1 : True := trivial; have tk_r2 : True := trivial
        go_wp2_with (first | (go_at_call 109; (with_reducible refine (HPl.out b3 _ (hM.ats 0 _ _ _ rfl)).mono ?_); rintro e W' ⟨rfl, hb'⟩; have hM' := hM.call hb'; clear hM hb'; have hM := hM'; clear hM') | (go_at_call 93; (with_reducible refine (HQ0.out _).mono ?_); rintro e W' ⟨rfl, hb'⟩; have hM' := hM.call hb'; clear hM hb'; have hM := hM'; clear hM') | (go_at_call 93; (with_reducible refine (HQ1.out _).mono ?_); rintro e W' ⟨rfl, hb'⟩; have hM' := hM.call hb'; clear hM hb'; have hM := hM'; clear hM') | (go_at_call 93; (with_reducible refine (HQ2.out _).mono ?_); rintro e W' ⟨rfl, hb'⟩; have hM' := hM.call hb'; clear hM hb'; have hM := hM'; clear hM') | (go_at_call 93; (with_reducible refine (HQ3.out _).mono ?_); rintro e W' ⟨rfl, hb'⟩; have hM' := hM.call hb'; clear hM hb'; have hM := hM'; clear hM') | (refine wpList_gget1 ?_ _ _ rfl _ _ rfl hM 0 rfl (cellTab _ rfl) (by omega) _ e0 ?_; kernel_rfl) | (refine wpList_gget1 ?_ _ _ rfl _ _ rfl hM 0 rfl (cellTab _ rfl) (by omega) _ e1 ?_; kernel_rfl) | (refine wpList_gget1 ?_ _ _ rfl _ _ rfl hM 0 rfl (cellTab _ rfl) (by omega) _ e2 ?_; kernel_rfl) | (refine wpList_gget1 ?_ _ _ rfl _ _ rfl hM 0 rfl (cellTab _ rfl) (by omega) _ e3 ?_; kernel_rfl) | (have _t := tk_r1; (refine wpList_get rfl _ _ rfl _ _ rfl hM 0 rfl (rowTab _ _ rfl) (by omega) ?_); clear tk_r1) | (have _t := tk_b3; refine wpList_zero rfl _ rfl (zeroTab _ _ _ rfl) hM ?_; intro b3 W' hb3 hM'; clear hM tk_b3; have hM := hM'; clear hM') | (have _t := tk_r2; (refine wpList_lay rfl _ _ _ rfl _ _ rfl _ _ rfl hM 0 rfl (by assumption) (rowTab _ _ rfl) (by omega) ?_ ?_; (first | (intro _ _; rfl) | (intro k _; exact h1 _) | (intro k _; simp only [lay, upd]; (repeat' split) <;> first | exact h1 _ | rfl)); intro W' hM'; clear hM; have hM := hM'; clear hM'; simp only [List.set] at hM); have hM1 := hM.re 0 rfl (gt (hs k)) (fun j hj => lay_goat _ hs k j hj); simp only [List.set_cons_zero] at hM1; clear hM; have hM := hM1; clear hM1; clear tk_r2))
        go_ret
        exact ⟨ret_bool Hp.out.symm, hM.below⟩
      have tk_b3 : True := trivial; have tk_r1 : True := trivial; have tk_r2 : True := trivial
      go_wp2_with (first | (go_at_call 109; (with_reducible refine (HPl.out b3 _ (hM.ats 0 _ _ _ rfl)).mono ?_); rintro e W' ⟨rfl, hb'⟩; have hM' := hM.call hb'; clear hM hb'; have hM := hM'; clear hM') | (go_at_call 93; (with_reducible refine (HQ0.out _).mono ?_); rintro e W' ⟨rfl, hb'⟩; have hM' := hM.call hb'; clear hM hb'; have hM := hM'; clear hM') | (go_at_call 93; (with_reducible refine (HQ1.out _).mono ?_); rintro e W' ⟨rfl, hb'⟩; have hM' := hM.call hb'; clear hM hb'; have hM := hM'; clear hM') | (go_at_call 93; (with_reducible refine (HQ2.out _).mono ?_); rintro e W' ⟨rfl, hb'⟩; have hM' := hM.call hb'; clear hM hb'; have hM := hM'; clear hM') | (go_at_call 93; (with_reducible refine (HQ3.out _).mono ?_); rintro e W' ⟨rfl, hb'⟩; have hM' := hM.call hb'; clear hM hb'; have hM := hM'; clear hM') | (refine wpList_gget1 ?_ _ _ rfl _ _ rfl hM 0 rfl (cellTab _ rfl) (by omega) _ e0 ?_; kernel_rfl) | (refine wpList_gget1 ?_ _ _ rfl _ _ rfl hM 0 rfl (cellTab _ rfl) (by omega) _ e1 ?_; kernel_rfl) | (refine wpList_gget1 ?_ _ _ rfl _ _ rfl hM 0 rfl (cellTab _ rfl) (by omega) _ e2 ?_; kernel_rfl) | (refine wpList_gget1 ?_ _ _ rfl _ _ rfl hM 0 rfl (cellTab _ rfl) (by omega) _ e3 ?_; kernel_rfl) | (have _t := tk_r1; (refine wpList_get rfl _ _ rfl _ _ rfl hM 0 rfl (rowTab _ _ rfl) (by omega) ?_); clear tk_r1) | (have _t := tk_b3; refine wpList_zero rfl _ rfl (zeroTab _ _ _ rfl) hM ?_; intro b3 W' hb3 hM'; clear hM tk_b3; have hM := hM'; clear hM') | (have _t := tk_r2; (refine wpList_lay rfl _ _ _ rfl _ _ rfl _ _ rfl hM 0 rfl (by assumption) (rowTab _ _ rfl) (by omega) ?_ ?_; (first | (intro _ _; rfl) | (intro k _; exact h1 _) | (intro k _; simp only [lay, upd]; (repeat' split) <;> first | exact h1 _ | rfl)); intro W' hM'; clear hM; have hM := hM'; clear hM'; simp only [List.set] at hM); have hM1 := hM.re 0 rfl (gt (hs k)) (fun j hj => lay_goat _ hs k j hj); simp only [List.set_cons_zero] at hM1; clear hM; have hM := hM1; clear hM1; clear tk_r2))
      go_roundw
      case rel => exact ⟨k + 1, by omega, by go_num, Lib.hid (fun j hj => by
          by_cases e : j = k
          · rw [e]; exact HR.out.trans (by simp)
          · exact hall.out j (by omega)), hM.drop⟩
      case measure => simp [intOf]; omega
    · obtain rfl : k = n := by omega
      have Hp := Lib.hid (goatsA_all hall.out)
      by_cases h20 : k ≤ 20
      · have d1 : decide ((k : Int) ≤ 20) = true := decide_eq_true (by omega)
        have d2 : (k : Int) ≤ 20 := by omega
        go_wp2
        go_ret
        exact ⟨ret_bool (by rw [Hp.out]; exact (decide_eq_true h20).symm), hM.below⟩
      · have d1 : decide ((k : Int) ≤ 20) = false := decide_eq_false (by omega)
        have d2 : ¬ (k : Int) ≤ 20 := by omega
        go_wp2
        go_ret
        exact ⟨ret_bool (by rw [Hp.out]; exact (decide_eq_false h20).symm), hM.below⟩
end Go.Proofs.YtcdpdcjdjcbhcaaDoor

