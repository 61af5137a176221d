/-
  Several texts in one: StepPush, QuietOld, Members, Loads, Flock, UpTo, Names, Neq0, Eql0, ToldG, OpenHd, TextLay.
-/
import Derived.Test.YtcdpdcjdjcbhcaaDoorP5
import Derived.Test.YtcdpdcjdjcbhcaaDoorP4
import Derived.Test.YtcdpdcjdjcbhcaaDoorP3
import Derived.Test.YtcdpdcjdjcbhcaaDoorP1
import Derived.Test.YtcdpdcjdjcbhcaaDoorP2
import Derived.Shelf.Strconv.Itoa4
import Derived.Shelf.Strings.OnBuilder
import Derived.Shelf.Strings.BuilderK
import Derived.Ground.NamesProg
import Derived.Test.YtcdpdcjdjcbhcaaDoorProg
/-
  PLAIN LAWS over any program: in a drawn region with reads at any places, an element appended to a list of the call's own.
-/
namespace Go.Proofs.YtcdpdcjdjcbhcaaDoor
open Go Go.RowKit

section
variable {P : Program} {o : Oper} {a : Act} {w : Base} {L x : Blocks} {K : Act → (World → Prop) → Prop}
theorem exec_append {W W' : World} {v sv yv : Value} {s y : Operand} {t : TypeId} (ho : o.op = .call { callee := .builtin .append, args := #[s, y], argTypes := #[t, t] }) (hs : a.eval s = sv) (hx : a.eval y = yv)
    (hr : (Builtin.append_ #[t, t] o.type #[sv, yv]).run P W = .ok v W') : (execOp a.eval o).run P W = .ok (.value v) W' := by
  unfold execOp
  simp only [ho, resolve, invoke, builtin, Sem.run_bind, Sem.run_pure, Result.andThen_ok, List.map_toArray, List.map_cons, List.map_nil, hs, hx, hr]
theorem step_push0 (s y : Operand) (t : TypeId) (ho : o.op = .call { callee := .builtin .append, args := #[s, y], argTypes := #[t, t] })
    (e : TypeId) (m bs : Nat) (z : Value) (hu : P.underlying t = some (.slice e)) (hz : (P.info? e).map (fun i => (i.size, i.zero, i.bytes)) = some (m, some z, bs)) (hzs : z.cells.size = m) (hbs : bs ≤ 1000)
    (hs : a.eval s = .slice none 0 0) (bn : Nat) (f : Nat → Value) (hx : a.eval y = .slice (some ⟨bn, 0, none⟩) 1 1) (R : Nat → Value) (hR : ∀ j, j < m → f j = R j)
    (h : ∀ b' c' F', w.B ≤ b' → 1 ≤ c' → (∀ j, j < 1 * m → F' j = R j) → K (a.put o.dst (.slice (some ⟨b', 0, none⟩) 1 c')) (Mem w (((b', c' * m, F') :: x) ++ L))) : stepT P (Mem w L) o a (Mem w (((bn, m, f) :: x) ++ L)) K := by
  obtain ⟨i, hi, hq⟩ := Option.map_eq_some_iff.1 hz
  simp only [Prod.mk.injEq] at hq
  obtain ⟨rfl, q2, rfl⟩ := hq
  intro W hM
  have hr := run_append_nil (P := P) W t o.type e i z hu hi q2 ⟨bn, 0, none⟩ 1 1 (arr i.size f).toList (by simp [arr_size]) (hM.at0.list (Nat.le_refl _)) (by omega) (by omega) (by omega)
  have hge := grownCap_ge W 1 0 e
  refine .inl ⟨_, _, _, .inl (exec_append ho hs hx hr), kept_mem w L ((W.heap.size, grownCap W 1 0 e * i.size, _) :: x), (hM.drew.allocA e _ (grownCap W 1 0 e * i.size) ?_).skip, h _ _ _ hM.size hge (fun j hj => ?_)⟩
  · simp only [Array.size_append, List.size_toArray, size_zeroCells, hzs, Array.length_toList, arr_size]
    conv => lhs; lhs; rw [← Nat.one_mul i.size]
    rw [← Nat.add_mul]
    congr 1; omega
  · have hj' : j < i.size := by omega
    rw [← hR j hj']
    simp [Array.getElem?_append, arr, hj']
theorem step_push1 (s y : Operand) (t : TypeId) (ho : o.op = .call { callee := .builtin .append, args := #[s, y], argTypes := #[t, t] })
    (e : TypeId) (m bs : Nat) (z : Value) (hu : P.underlying t = some (.slice e)) (hz : (P.info? e).map (fun i => (i.size, i.zero, i.bytes)) = some (m, some z, bs)) (hzs : z.cells.size = m) (hbs : bs ≤ 1000)
    (b n c : Nat) (F : Nat → Value) (hs : a.eval s = .slice (some ⟨b, 0, none⟩) n c) (hb : w.B ≤ b) (hnc : n ≤ c) (hn : n ≤ 1048576)
    (bn : Nat) (f : Nat → Value) (hx : a.eval y = .slice (some ⟨bn, 0, none⟩) 1 1) (h1 : ∀ k, k < m → (f k).oneCell' = true) (R : Nat → Value) (hR0 : ∀ j, j < n * m → F j = R j) (hR : ∀ j, j < m → f j = R (n * m + j))
    (h : ∀ b' c' F', w.B ≤ b' → n + 1 ≤ c' → (∀ j, j < (n + 1) * m → F' j = R j) → K (a.put o.dst (.slice (some ⟨b', 0, none⟩) (n + 1) c')) (Mem w (((b', c' * m, F') :: x) ++ L))) : stepT P (Mem w L) o a (Mem w (((bn, m, f) :: (b, c * m, F) :: x) ++ L)) K := by
  obtain ⟨i, hi, hq⟩ := Option.map_eq_some_iff.1 hz
  simp only [Prod.mk.injEq] at hq
  obtain ⟨rfl, q2, rfl⟩ := hq
  intro W hM
  have hnews := hM.at0.list (Nat.le_refl _)
  by_cases hroom : n + 1 ≤ c
  · have hfit : n * i.size + i.size ≤ c * i.size := by
      have := Nat.mul_le_mul_right i.size hroom
      rwa [Nat.add_mul, Nat.one_mul] at this
    obtain ⟨t0, ht0⟩ := hM.ats 1 _ _ _ rfl
    have hfc := run_firstCells_some (P := P) W i.size 1 ⟨bn, 0, none⟩ 1 1 (arr i.size f).toList (by simp [arr_size]) hnews
    have hst := run_storeCells_at (P := P) b (n * i.size) t0 (arr i.size f).toList 0 (arr (c * i.size) F) W ht0 (by simp [arr_size]; omega) (fun v hv => by
      rw [arr_toList] at hv; simp at hv; obtain ⟨k, hk, rfl⟩ := hv; exact h1 k hk)
    rw [Nat.add_zero, arr_lay hfit] at hst
    have hr : (Builtin.append_ #[t, t] o.type #[.slice (some ⟨b, 0, none⟩) n c, .slice (some ⟨bn, 0, none⟩) 1 1]).run P W = .ok (.slice (some ⟨b, 0, none⟩) (n + 1) c) (W.setRow b (arr (c * i.size) (lay F (n * i.size) i.size f))) := by
      simp [Builtin.append_, run_underlying hu, sizeOf, typeInfo, hi, Builtin.lenOf, hroom, hfc, add_any, hst]
    refine .inl ⟨_, _, _, .inl (exec_append ho hs hx hr), kept_mem w L ((b, c * i.size, lay F (n * i.size) i.size f) :: x), (hM.setRow 1 rfl hb _).drop, h b c _ hb hroom (fun j hj => ?_)⟩
    · rw [Nat.add_mul, Nat.one_mul] at hj
      simp only [lay]
      by_cases hj' : j < n * i.size
      · rw [if_neg (by omega)]; exact hR0 j hj'
      · rw [if_pos (by omega), hR _ (by omega), show n * i.size + (j - n * i.size) = j by omega]
  · have hle : n * i.size ≤ c * i.size := Nat.mul_le_mul_right _ hnc
    have hb48 : Builtin.nextslicecap (n + 1) c * i.bytes ≤ 281474976710656 := growslice_fits (by omega) (by
      have : (n + 1) * i.bytes ≤ 1048577 * 1000 := Nat.mul_le_mul (by omega) hbs
      omega)
    have hr := run_append_grow (P := P) W t o.type e i z hu hi q2 ⟨b, 0, none⟩ n c (arr (n * i.size) F).toList (by simp [arr_size]) ((hM.ats 1 _ _ _ rfl).list hle) ⟨bn, 0, none⟩ 1 1 (arr i.size f).toList (by simp [arr_size]) hnews (by omega) (by omega) hb48
    have hge := grownCap_ge W (n + 1) c e
    refine .inl ⟨_, _, _, .inl (exec_append ho hs hx hr), kept_mem w L ((W.heap.size, grownCap W (n + 1) c e * i.size, _) :: x), (hM.drew.allocA e _ (grownCap W (n + 1) c e * i.size) ?_).skip.skip, h _ _ _ hM.size hge (fun j hj => ?_)⟩
    · simp only [Array.size_append, List.size_toArray, size_zeroCells, hzs, Array.length_toList, arr_size]
      rw [← Nat.succ_mul, ← Nat.add_mul]
      congr 1; simp only [Nat.succ_eq_add_one]; omega
    · rw [Nat.add_mul, Nat.one_mul] at hj
      by_cases hj' : j < n * i.size
      · rw [← hR0 j hj']
        rw [Array.getElem?_append_left (by simp [arr_size]; omega), Array.getElem?_append_left (by simp [arr_size]; omega), Array.toArray_toList, arr_at hj']
        rfl
      · rw [show j = n * i.size + (j - n * i.size) by omega, ← hR _ (by omega)]
        rw [Array.getElem?_append_left (by simp [arr_size]; omega), Array.getElem?_append_right (by simp [arr_size]), Array.toArray_toList, Array.toArray_toList, arr_size, Nat.add_sub_cancel_left, arr_at (by omega)]
        rfl
end
end Go.Proofs.YtcdpdcjdjcbhcaaDoor

/-
  A load, in a drawn region, of a cell that lies below the base: an error's variable.
-/
namespace Go.Proofs.YtcdpdcjdjcbhcaaDoor
open Go Go.RowKit Go.BigFrame

section
variable {P : Program} {o : Oper} {a : Act} {w : Base} {L : Blocks} {K : Act → Prop}
/-- A load of a cell that every world of the class holds. -/
theorem quiet_old (ty : TypeId) (x : Operand) (ho : o.op = .load ty x) (b off : Nat) (hx : a.eval x = .pointer (some ⟨b, off, none⟩)) (hT : CellT P ty) (v : Value) (hc : ∀ W, Mem w L W → W.cell? ⟨b, off, none⟩ = some v)
    (h : K (a.put o.dst v)) : o.quiet P a (Mem w L) K := by
  refine ⟨v, fun W hM => ?_, h⟩
  obtain ⟨⟨d, hu, hd⟩, _⟩ := hT
  have hagg : (isAgg ty).run P W = .ok false W := by
    unfold isAgg
    rw [Sem.run_bind, run_underlying hu W]
    cases d <;> simp_all [TypeDesc.isRow]
  have hl : (load ⟨b, off, none⟩).run P W = .ok v W := by simp [load, Sem.run, hc W hM]
  unfold Oper.quietAt execOp
  simp only [ho, hx, Instr.loadAt, Instr.sureAddr, loadVar, Sem.run_bind, Sem.run_pure, Result.andThen_ok, hagg, Bool.false_eq_true, if_false, hl]
  exact ⟨rfl, rfl⟩
end

end Go.Proofs.YtcdpdcjdjcbhcaaDoor

/-
  Goats of a herd: impl.membersOf by contract.
-/
namespace Go.Proofs.YtcdpdcjdjcbhcaaDoor
open Go Go.RowKit Go.BigFrame

/-- A goat's cells; a herd's. -/
def mem3 (s : ByteArray) (e f : Int) : Nat → Value := fun k => if k = 0 then .string s else if k = 1 then .int .i16 e else .int .u16 f
def gMem (d : Hd) (i : Nat) : Nat → Value := mem3 (d.ss i) (d.es i) (d.fs i)
def sMem (d : Hd) : Nat → Value := fun j => gMem d (j / 3) (j % 3)
theorem sMem_row (d : Hd) (k j : Nat) (h : j < 3) : sMem d (k * 3 + j) = gMem d k j := by
  unfold sMem
  rw [show (k * 3 + j) / 3 = k by omega, show (k * 3 + j) % 3 = j by omega]
theorem mem3_one (s : ByteArray) (e f : Int) (k : Nat) : (mem3 s e f k).oneCell' = true := by
  unfold mem3
  (repeat' split) <;> rfl
theorem mem3_ones {s : ByteArray} {e f : Int} : ∀ k, k < 3 → (mem3 s e f k).oneCell' = true := fun k _ => mem3_one s e f k
theorem member_under : Tryd.prog.underlying 149 = some (.slice 157) := Tryd.underlying149
theorem member_info : (Tryd.prog.info? 157).map (fun i => (i.size, i.zero)) = some (3, some (.agg (arr 3 zMem))) := by kernel_rfl
theorem member_infoB : (Tryd.prog.info? 157).map (fun i => (i.size, i.zero, i.bytes)) = some (3, some (.agg (arr 3 zMem)), 24) := by kernel_rfl
theorem run_member (s : ByteArray) (e f : Int) (W : World) : (Instr.build 157 #[(0, .string s), (1, .int .i16 e), (2, .int .u16 f)]).run Tryd.prog W = .ok (.agg (arr 3 (mem3 s e f))) W := by kernel_rfl
theorem wpList_member {ops : Array Oper} {rest : List Oper} {o : Oper} {a : Act} {W : World} {Q : Exit → Act → World → Prop} (hgd : o.guard = none) (x y z : Operand) (ho : o.op = .build 157 #[(0, x), (1, y), (2, z)]) (s : ByteArray) (e f : Int)
    (hx : a.eval x = .string s) (hy : a.eval y = .int .i16 e) (hz : a.eval z = .int .u16 f)
    (h : wpList Tryd.prog ops Q rest (a.put o.dst (.agg (arr 3 (mem3 s e f)))) W) : wpList Tryd.prog ops Q (o :: rest) a W := by
  refine wpList_plain hgd fun K hK => ?_
  have hr := run_member s e f W
  rw [← hx, ← hy, ← hz] at hr
  unfold Oper.wp execOp
  simp only [ho, List.map_toArray, List.map_cons, List.map_nil, Sem.run_bind, Sem.run_pure, hr, Result.andThen_ok]
  exact hK _ _ h

theorem exec_member {o : Oper} {a : Act} (x y z : Operand) (ho : o.op = .build 157 #[(0, x), (1, y), (2, z)]) (s : ByteArray) (e f : Int)
    (hx : a.eval x = .string s) (hy : a.eval y = .int .i16 e) (hz : a.eval z = .int .u16 f) (W : World) : (execOp a.eval o).run Tryd.prog W = .ok (.value (.agg (arr 3 (mem3 s e f)))) W := by
  have hr := run_member s e f W
  rw [← hx, ← hy, ← hz] at hr
  unfold execOp
  simp only [ho, List.map_toArray, List.map_cons, List.map_nil, Sem.run_bind, Sem.run_pure, hr, Result.andThen_ok]

/-- The goats v of a herd, in a block that is the call's own. -/
def MemsAt (W : World) (a : Option Addr) (n : Nat) (d : Hd) : Prop := n = 0 ∨ ∃ b N F, a = some ⟨b, 0, none⟩ ∧ n * 3 ≤ N ∧ (∀ j, j < n * 3 → F j = sMem d j) ∧ At W b N F
theorem MemsAt.below {W W' : World} {a : Option Addr} {n : Nat} {d : Hd} (h : MemsAt W a n d) (hb : Below W.heap.size W W') : MemsAt W' a n d := by
  rcases h with h | ⟨b, N, F, h1, h2, h3, h4⟩
  · exact .inl h
  · exact .inr ⟨b, N, F, h1, h2, h3, h4.below hb h4.lt⟩
theorem MemsAt.row {W : World} {a : Option Addr} {n : Nat} {d : Hd} (h : MemsAt W a n d) {k : Nat} (hk : k < n) : ∃ b N F, a = some ⟨b, 0, none⟩ ∧ n * 3 ≤ N ∧ (∀ j, j < n * 3 → F j = sMem d j) ∧ (∀ j, j < 3 → F (k * 3 + j) = gMem d k j) ∧ At W b N F := by
  rcases h with h | ⟨b, N, F, h1, h2, h3, h4⟩
  · omega
  · exact ⟨b, N, F, h1, h2, h3, fun j hj => by rw [h3 _ (by omega), sMem_row d k j hj], h4⟩

set_option maxRecDepth 100000 in
set_option maxHeartbeats 2000000 in
theorem membersOf_l (d : Hd) (b1 b2 b3 : Nat) (h1 : d.n1 ≤ 1048576) (h2 : d.n2 = d.n1) (h3 : d.n3 = d.n1) (w : World) (hM0 : Mem w (hdB d b1 b2 b3) w) :
    Calls Tryd.prog 118 #[.agg (arr 3 (hdV d b1 b2 b3))] w fun e w' => ∃ v, e = .returned v ∧ Lst w [] 3 v d.n1 (sMem d) w' := by
  obtain ⟨n, n2, n3, ss, es, fs⟩ := d
  simp only at h1 h2 h3
  subst h2 h3
  have hM := hM0
  simp only [hdB] at hM
  clear hM0
  have a1 : hdV ⟨n3, n3, n3, ss, es, fs⟩ b1 b2 b3 0 = .slice (some ⟨b1, 0, none⟩) n3 n3 := rfl
  have a2 : hdV ⟨n3, n3, n3, ss, es, fs⟩ b1 b2 b3 1 = .slice (some ⟨b2, 0, none⟩) n3 n3 := rfl
  have a3 : hdV ⟨n3, n3, n3, ss, es, fs⟩ b1 b2 b3 2 = .slice (some ⟨b3, 0, none⟩) n3 n3 := rfl
  have hS : sMem ⟨n3, n3, n3, ss, es, fs⟩ = fun j => mem3 (ss (j / 3)) (es (j / 3)) (fs (j / 3)) (j % 3) := rfl
  rw [hS]
  clear hS
  generalize hdV ⟨n3, n3, n3, ss, es, fs⟩ b1 b2 b3 = hv at a1 a2 a3 ⊢
  have hSr : ∀ k j, j < 3 → (fun j => mem3 (ss (j / 3)) (es (j / 3)) (fs (j / 3)) (j % 3)) (k * 3 + j) = mem3 (ss k) (es k) (fs k) j := fun k j hj => sMem_row ⟨n3, n3, n3, ss, es, fs⟩ k j hj
  have HSr := Lib.hid hSr
  clear hSr
  show Calls _ _ _ _ fun e w' => ∃ v, e = .returned v ∧ Lst w [] 3 v n3 _ w'
  generalize (fun j => mem3 (ss (j / 3)) (es (j / 3)) (fs (j / 3)) (j % 3)) = R at HSr ⊢
  have tk_x1 : True := trivial
  go_enter Tryd.func118, Tryd.ntmps118
  go_wp2_with (first | (have _t := tk_x1; refine wpList_box rfl _ _ rfl _ _ rfl hM ?_; intro x1 W' hx1 hM'; clear hM tk_x1; have hM := hM'; clear hM') | (refine wpList_get1 rfl _ _ rfl _ _ rfl hM 0 rfl (cellTab _ rfl) (by omega) _ a1 ?_))
  go_loopw [3, 9] (fun v i wr => ∃ k : Nat, k ≤ n3 ∧ i = .int .i64 k ∧ Lst w [(x1, 3, hv), (b1, n3, vStringS ss), (b2, n3, vInt16S es), (b3, n3, vUint16S fs)] 3 v k R wr) (fun _ i _ => n3 - (intOf i).toNat)
  case atStart => exact ⟨0, by omega, rfl, .inl ⟨rfl, rfl, hM⟩⟩
  case round =>
    clear hM
    obtain ⟨k, hk, rfl, hL⟩ := hrel
    by_cases hlt : k < n3
    · have l2 : (k : Int) < n3 := by omega
      have e1 : vStringS ss k = .string (ss k) := rfl
      have e2 : vInt16S es k = .int .i16 (es k) := rfl
      have e3 : vUint16S fs k = .int .u16 (fs k) := rfl
      have hR1 := Lib.hid (fun j (hj : j < 3) => (HSr.out k j hj).symm)
      generalize ss k = sk at *
      generalize es k = ek at *
      generalize fs k = fk at *
      rcases hL with ⟨rfl, rfl, hM⟩ | ⟨b, c, F, rfl, hbb, hnc, hF, hM⟩
      · have hR0 : Hid (∀ j, j < 3 → mem3 sk ek fk j = R j) := Lib.hid (fun j hj => by have := hR1.out j hj; rwa [Nat.zero_mul, Nat.zero_add] at this)
        go_wp2_with (first | (refine wpList_get1 rfl _ _ rfl _ _ rfl hM 1 rfl (cellTab _ rfl) (by omega) _ e1 ?_))
        ((try simp only [Act.put, List.setIfInBounds_toArray, List.set_cons_succ, List.set_cons_zero]); refine region_reads [0, 1, 2, 3, 4, 5, 6, 7, 8, 9, 10, 11, 12] #[true, true, true, true, true, true, true, true, true, true, true, true, true, false, false, false] 3 (by kernel_rfl) (by kernel_rfl) (by kernel_rfl) hM ?_; clear hM; (repeat (refine qs_plain rfl rfl ?_; first | (refine b_get1 _ _ rfl _ _ rfl 0 rfl (cellTab _ rfl) (by omega) _ (a2) ?_; (simp only [Act.put, List.setIfInBounds_toArray, List.set_cons_succ, List.set_cons_zero])) | (refine b_get1 _ _ rfl _ _ rfl 2 rfl (cellTab _ rfl) (by omega) _ (e2) ?_; (simp only [Act.put, List.setIfInBounds_toArray, List.set_cons_succ, List.set_cons_zero])) | (refine b_get1 _ _ rfl _ _ rfl 0 rfl (cellTab _ rfl) (by omega) _ (a3) ?_; (simp only [Act.put, List.setIfInBounds_toArray, List.set_cons_succ, List.set_cons_zero])) | (refine b_get1 _ _ rfl _ _ rfl 3 rfl (cellTab _ rfl) (by omega) _ (e3) ?_; (simp only [Act.put, List.setIfInBounds_toArray, List.set_cons_succ, List.set_cons_zero])) | (refine b_val ?_; refine ⟨_, fun W => exec_member _ _ _ rfl sk ek fk rfl rfl rfl W, ?_⟩; (simp only [Act.put, List.setIfInBounds_toArray, List.set_cons_succ, List.set_cons_zero])) | (refine b_val ?_; apply Exists.intro; refine ⟨fun W => ?_, ?_⟩; (go_simp; rfl); (simp only [Act.put, List.setIfInBounds_toArray, List.set_cons_succ, List.set_cons_zero])))); (with_reducible refine qs_nil ?_))
        (refine mix_one (i := 13) (by kernel_rfl) rfl (by kernel_rfl) rfl ?_)
        (refine step_slice1 _ _ _ rfl 3 (mem3 sk ek fk) rfl _ member_under member_info (by omega) (by omega) ?_; intro l1 hl1; (simp only [Act.put, List.setIfInBounds_toArray, List.set_cons_succ, List.set_cons_zero]))
        (refine mix_one (i := 14) (by kernel_rfl) rfl (by kernel_rfl) rfl ?_)
        (refine step_push0 _ _ _ rfl _ 3 _ _ member_under member_infoB rfl (by omega) rfl _ _ rfl R hR0.out ?_; intro bL cL FL hbL hcL hFL; (simp only [Act.put, List.setIfInBounds_toArray, List.set_cons_succ, List.set_cons_zero]))
        (refine mix_one (i := 15) (by kernel_rfl) rfl (by kernel_rfl) rfl ?_)
        (refine step_val ?_; apply Exists.intro; refine ⟨fun W => ?_, ?_⟩; (go_simp; rfl); (simp only [Act.put, List.setIfInBounds_toArray, List.set_cons_succ, List.set_cons_zero]))
        (refine mix_end (by kernel_rfl) ?_; intro W' hM; simp only [List.cons_append, List.nil_append] at hM)
        go_wp2
        go_roundw
        case rel => exact ⟨1, by omega, by go_num, .inr ⟨bL, cL, FL, rfl, hbL, hcL, hFL, hM⟩⟩
        case measure => simp [intOf]; omega
      · have hn : k ≤ 1048576 := by omega
        have HF := Lib.hid hF
        clear hF
        go_wp2_with (first | (refine wpList_get1 rfl _ _ rfl _ _ rfl hM 2 rfl (cellTab _ rfl) (by omega) _ e1 ?_))
        ((try simp only [Act.put, List.setIfInBounds_toArray, List.set_cons_succ, List.set_cons_zero]); refine region_readsX [0, 1, 2, 3, 4, 5, 6, 7, 8, 9, 10, 11, 12] #[true, true, true, true, true, true, true, true, true, true, true, true, true, false, false, false] 3 [(b, c * 3, F)] (by kernel_rfl) (by kernel_rfl) (by kernel_rfl) hM ?_; clear hM; (repeat (refine qs_plain rfl rfl ?_; first | (refine b_get1 _ _ rfl _ _ rfl 0 rfl (cellTab _ rfl) (by omega) _ (a2) ?_; (simp only [Act.put, List.setIfInBounds_toArray, List.set_cons_succ, List.set_cons_zero])) | (refine b_get1 _ _ rfl _ _ rfl 2 rfl (cellTab _ rfl) (by omega) _ (e2) ?_; (simp only [Act.put, List.setIfInBounds_toArray, List.set_cons_succ, List.set_cons_zero])) | (refine b_get1 _ _ rfl _ _ rfl 0 rfl (cellTab _ rfl) (by omega) _ (a3) ?_; (simp only [Act.put, List.setIfInBounds_toArray, List.set_cons_succ, List.set_cons_zero])) | (refine b_get1 _ _ rfl _ _ rfl 3 rfl (cellTab _ rfl) (by omega) _ (e3) ?_; (simp only [Act.put, List.setIfInBounds_toArray, List.set_cons_succ, List.set_cons_zero])) | (refine b_val ?_; refine ⟨_, fun W => exec_member _ _ _ rfl sk ek fk rfl rfl rfl W, ?_⟩; (simp only [Act.put, List.setIfInBounds_toArray, List.set_cons_succ, List.set_cons_zero])) | (refine b_val ?_; apply Exists.intro; refine ⟨fun W => ?_, ?_⟩; (go_simp; rfl); (simp only [Act.put, List.setIfInBounds_toArray, List.set_cons_succ, List.set_cons_zero])))); (with_reducible refine qs_nil ?_))
        (refine mix_one (i := 13) (by kernel_rfl) rfl (by kernel_rfl) rfl ?_)
        (refine step_slice1 _ _ _ rfl 3 (mem3 sk ek fk) rfl _ member_under member_info (by omega) (by omega) ?_; intro l1 hl1; (simp only [Act.put, List.setIfInBounds_toArray, List.set_cons_succ, List.set_cons_zero]))
        (refine mix_one (i := 14) (by kernel_rfl) rfl (by kernel_rfl) rfl ?_)
        (refine step_push1 _ _ _ rfl _ 3 _ _ member_under member_infoB rfl (by omega) _ _ _ _ rfl hbb hnc hn _ _ rfl mem3_ones R HF.out hR1.out ?_; intro bL cL FL hbL hcL hFL; (simp only [Act.put, List.setIfInBounds_toArray, List.set_cons_succ, List.set_cons_zero]))
        (refine mix_one (i := 15) (by kernel_rfl) rfl (by kernel_rfl) rfl ?_)
        (refine step_val ?_; apply Exists.intro; refine ⟨fun W => ?_, ?_⟩; (go_simp; rfl); (simp only [Act.put, List.setIfInBounds_toArray, List.set_cons_succ, List.set_cons_zero]))
        (refine mix_end (by kernel_rfl) ?_; intro W' hM; simp only [List.cons_append, List.nil_append] at hM)
        go_wp2
        go_roundw
        case rel => exact ⟨k + 1, by omega, by go_num, .inr ⟨bL, cL, FL, rfl, hbL, hcL, hFL, hM⟩⟩
        case measure => simp [intOf]; omega
    · obtain rfl : k = n3 := by omega
      go_wp2
      go_ret
      exact ⟨_, rfl, hL.only⟩
end Go.Proofs.YtcdpdcjdjcbhcaaDoor

/-
  PLAIN LAWS over any program: loads out of a block that lies in memory (At), in a plain region, and with reads at any places.
-/
namespace Go.Proofs.YtcdpdcjdjcbhcaaDoor
open Go Go.RowKit

section
variable {P : Program} {ops : Array Oper} {rest : List Oper} {o : Oper} {a : Act} {w : Base} {W : World} {Q : Exit → Act → World → Prop} {L : Blocks} {K : Act → Prop}
/-- A part by value. -/
theorem wpList_getAt (hgd : o.guard = none) (ty : TypeId) (x : Operand) (ho : o.op = .load ty x) (b off : Nat) (hx : a.eval x = .pointer (some ⟨b, off, none⟩))
    {n : Nat} {f : Nat → Value} (hA : At W b n f) {m : Nat} (hT : RowT P ty m) (hle : off + m ≤ n) (g : Nat → Value) (hg : ∀ k, k < m → f (off + k) = g k)
    (h : wpList P ops Q rest (a.put o.dst (.agg (arr m g))) W) : wpList P ops Q (o :: rest) a W := by
  obtain ⟨⟨d, hu, hd⟩, hm⟩ := hT
  obtain ⟨t, ht⟩ := hA
  have hr : W.rangeAt b off (arr m (fun k => f (off + k))).toList := by
    rw [← arr_extract hle]; exact World.rangeAt_of_block ht off m
  refine wpList_load_mid hgd ty x ho b off hx (arr m (fun k => f (off + k))).toList d hr hu hd (by rw [hm]; simp [arr_size]) ?_
  rw [arr_congr hg]
  simpa using h
/-- One cell. -/
theorem wpList_getAt1 (hgd : o.guard = none) (ty : TypeId) (x : Operand) (ho : o.op = .load ty x) (b off : Nat) (hx : a.eval x = .pointer (some ⟨b, off, none⟩))
    {n : Nat} {f : Nat → Value} (hA : At W b n f) (hT : CellT P ty) (hle : off < n) (v : Value) (hv : f off = v)
    (h : wpList P ops Q rest (a.put o.dst v) W) : wpList P ops Q (o :: rest) a W := by
  refine wpList_plain hgd fun K hK => ?_
  have hl := run_load_cell (P := P) hT ((hA.cell hle).trans (congrArg some hv))
  unfold Oper.wp execOp
  simp only [ho, hx, Instr.loadAt, Instr.sureAddr, Sem.run_bind, Sem.run_pure, Result.andThen_ok, hl]
  exact hK _ _ h
end
end Go.Proofs.YtcdpdcjdjcbhcaaDoor

/-
  Names as keys of a map; impl.flockOf by contract.
-/
namespace Go.Proofs.YtcdpdcjdjcbhcaaDoor
open Go Go.RowKit Go.BigFrame Go.Maps

def kvS (s : ByteArray) : Value := .string s
theorem name_told (s : ByteArray) (_h : s.size ≤ maxLen) : ∃ l, keyOf Tryd.prog 9 (kvS s) = some l := by
  unfold kvS keyOf
  simp only [Tryd.underlying9]
  unfold mapKey
  simp only [Tryd.underlying9]
  rw [if_pos _h]
  exact ⟨_, rfl⟩
theorem nameT : KeyTold Tryd.prog 9 kvS (fun s => s.size ≤ maxLen) := ⟨string_keyed Tryd.underlying9, name_told, fun h => by unfold kvS at h; simpa using h⟩
theorem puts_under : Tryd.prog.underlying 150 = some (.map 9 202) := Tryd.underlying150
theorem puts_zero (W : World) : (zeroValue 202).run Tryd.prog W = .ok .nilFunc W := by kernel_rfl
/-- What puts the i-th goat into a set. -/
def putV (p : Nat) : Value := .func (.func 134) #[.int .u16 (p : Int)] #[]
def putsU (d : Hd) : Nat → ByteArray → Value
  | 0 => fun _ => undef
  | i + 1 => updK (putsU d i) (d.ss i) (putV (2 ^ i))
def flkV (a : Option Addr) (n c m : Nat) : Nat → Value := fun k => if k = 0 then .slice a n c else .map (some m)
theorem run_flock (a : Option Addr) (n c m : Nat) (W : World) : (Instr.build 152 #[(0, .slice a n c), (1, .map (some m))]).run Tryd.prog W = .ok (.agg (arr 2 (flkV a n c m))) W := by kernel_rfl
theorem wpList_flock {ops : Array Oper} {rest : List Oper} {o : Oper} {a : Act} {W : World} {Q : Exit → Act → World → Prop} (hgd : o.guard = none) (x y : Operand) (ho : o.op = .build 152 #[(0, x), (1, y)]) (b : Option Addr) (n c m : Nat)
    (hx : a.eval x = .slice b n c) (hy : a.eval y = .map (some m))
    (h : wpList Tryd.prog ops Q rest (a.put o.dst (.agg (arr 2 (flkV b n c m)))) W) : wpList Tryd.prog ops Q (o :: rest) a W := by
  refine wpList_plain hgd fun K hK => ?_
  have hr := run_flock b n c m W
  rw [← hx, ← hy] at hr
  unfold Oper.wp execOp
  simp only [ho, List.map_toArray, List.map_cons, List.map_nil, Sem.run_bind, Sem.run_pure, hr, Result.andThen_ok]
  exact hK _ _ h
theorem flkV_one (a : Option Addr) (n c m k : Nat) : (flkV a n c m k).oneCell' = true := by
  unfold flkV
  split <;> rfl

theorem keysU_nodup (d : Hd) : ∀ n, (keysU d n).Nodup
  | 0 => by simp [keysU]
  | n + 1 => addK_nodup (keysU_nodup d n) _
theorem gMem_one (d : Hd) (i k : Nat) : (gMem d i k).oneCell' = true := mem3_one _ _ _ k
set_option maxRecDepth 100000 in
set_option maxHeartbeats 2000000 in
theorem flockOf_any (d : Hd) (a : Option Addr) (n c : Nat) (hn : n ≤ 14) (hs : ∀ i, i < n → (d.ss i).size ≤ maxLen) (w : World) (hA : MemsAt w a n d) :
    Calls Tryd.prog 117 #[.slice a n c] w fun e w' => ∃ m, e = .returned (.agg (arr 2 (flkV a n c m))) ∧ w.heap.size ≤ m ∧ w'.heap[m]? = some (mapO kvS (keysU d n) (putsU d n)) ∧ Below w.heap.size w w' := by
  have hM := Mem.nil w
  have HA := Lib.hid hA
  have HS := Lib.hid hs
  clear hA hs
  have tk_b1 : True := trivial; have tk_b2 : True := trivial; have tk_m1 : True := trivial; have tk_s1 : True := trivial
  go_enter Tryd.func117, Tryd.ntmps117
  go_wp2_with (first | (have _t := tk_b1; refine wpList_zero rfl _ rfl (zeroTab _ _ _ rfl) hM ?_; intro b1 W' hb1 hM'; clear hM tk_b1; have hM := hM'; clear hM') | (have _t := tk_m1; refine wpList_makeMap (kv := kvS) rfl _ rfl (putsU d 0) hM ?_; intro m W' hm0 hm1 hM'; clear hM tk_m1; have hM := hM'; clear hM') | (refine wpList_flock rfl _ _ rfl a n c m rfl rfl ?_) | (have _t := tk_b2; refine wpList_zero rfl _ rfl (zeroTab _ _ _ rfl) hM ?_; intro b2 W' hb2 hM'; clear hM tk_b2; have hM := hM'; clear hM') | (have _t := tk_s1; refine wpList_lay rfl _ _ _ rfl _ _ rfl _ _ rfl hM 0 rfl (by assumption) (rowTab _ _ rfl) (by omega) (fun k _ => flkV_one _ _ _ _ k) ?_; intro W' hM'; have hM2 := hM'.re 0 rfl (flkV a n c m) (fun k hk => by simp [lay, hk]); simp only [List.set_cons_zero] at hM2; clear hM hM' tk_s1; have hM := hM2; clear hM2))
  go_loopw [11] (fun i wr => ∃ k : Nat, k ≤ n ∧ i = .int .i64 k ∧ Mem ((Base.of w).with m (mapO kvS (keysU d k) (putsU d k)) rfl) [(b2, 2, flkV a n c m), (b1, 2, zFlk)] wr) (fun i _ => n - (intOf i).toNat)
  case atStart => exact ⟨0, by omega, rfl, hM⟩
  case round =>
    clear hM
    obtain ⟨k, hk, rfl, hM⟩ := hrel
    by_cases hlt : k < n
    · have l2 : (k : Int) < n := by omega
      have hb : Below w.heap.size w wr := hM.good.1
      obtain ⟨bm, N, F, rfl, hN, -, hF, hAt⟩ := (HA.out.below hb).row hlt
      obtain ⟨p, hp⟩ : ∃ p, 2 ^ k = p := ⟨_, rfl⟩
      have hsk : (d.ss k).size ≤ maxLen := HS.out k hlt
      have hks : ∀ s, s ∈ keysU d k → s.size ≤ maxLen := fun s hs => by
        obtain ⟨i, hi, rfl⟩ := keysU_mem.1 hs
        exact HS.out i (by omega)
      have g0 : gMem d k 0 = .string (d.ss k) := rfl
      have f1 : flkV (some ⟨bm, 0, none⟩) n c m 1 = .map (some m) := rfl
      have HN := Lib.hid (keysU_nodup d k)
      have HK := Lib.hid hks
      have HF := Lib.hid hF
      have HT := Lib.hid hAt
      clear hks hF hAt hb
      have tk_b3 : True := trivial; have tk_s1 : True := trivial
      go_wp2_with (first | (refine wpList_getAt rfl _ _ rfl _ _ rfl HT.out (rowTab _ _ rfl) (by omega) (gMem d k) HF.out ?_) | (have _t := tk_b3; refine wpList_zero rfl _ rfl (zeroTab _ _ _ rfl) hM ?_; intro b3 W' hb3 hM'; clear hM tk_b3; have hM := hM'; clear hM') | (have _t := tk_s1; refine wpList_lay rfl _ _ _ rfl _ _ rfl _ _ rfl hM 0 rfl (by assumption) (rowTab _ _ rfl) (by omega) (fun j _ => gMem_one d k j) ?_; intro W' hM'; have hM2 := hM'.re 0 rfl (gMem d k) (fun k hk => by simp [lay, hk]); simp only [List.set_cons_zero] at hM2; clear hM hM' tk_s1; have hM := hM2; clear hM2))
      ((try simp only [Act.put, List.setIfInBounds_toArray, List.set_cons_succ, List.set_cons_zero]); refine region_head_mem (m := 7) (by kernel_rfl) (by kernel_rfl) hM ?_; clear hM; simp only [List.take_succ_cons, List.take_zero, List.drop_succ_cons, List.drop_zero]; (repeat (first | go_big_quiet_skip | (go_big_quiet_want; first | (refine quiet_get1 _ _ rfl _ _ rfl 1 rfl (cellTab _ rfl) (by omega) _ (f1) ?_; (simp only [Act.put, List.setIfInBounds_toArray, List.set_cons_succ, List.set_cons_zero]); go_big_quiet_on) | (refine quiet_get1 _ _ rfl _ _ rfl 0 rfl (cellTab _ rfl) (by omega) _ (g0) ?_; (simp only [Act.put, List.setIfInBounds_toArray, List.set_cons_succ, List.set_cons_zero]); go_big_quiet_on) | (refine quiet_call ?_; apply Exists.intro; apply Exists.intro; apply Exists.intro; refine ⟨fun W => ?_, fun W hM => ?_, ?_⟩; (go_simp; exact ⟨rfl, rfl⟩); (exact alone_any k (by omega) p hp W); (simp only [Act.put, List.setIfInBounds_toArray, List.set_cons_succ, List.set_cons_zero]); go_big_quiet_on) | (refine quiet_val ?_; apply Exists.intro; refine ⟨fun W => ?_, ?_⟩; (go_simp; rfl); (simp only [Act.put, List.setIfInBounds_toArray, List.set_cons_succ, List.set_cons_zero]); go_big_quiet_on)))); (with_reducible refine wpQuiet_nil ?_); intro W' hM)
      go_wp2_with (first | (refine wpList_mapSet rfl _ _ _ _ rfl rfl (d.ss k) rfl (putV p) rfl nameT puts_under hM (lets_of hm0) HN.out HK.out hsk ?_; intro W' hM'; clear hM; have hM := hM'; clear hM'))
      go_roundw
      case rel => exact ⟨k + 1, by omega, by go_num, by subst hp; exact hM.drop⟩
      case measure => simp [intOf]; omega
    · obtain rfl : k = n := by omega
      go_wp2_with (first | (refine wpList_get rfl _ _ rfl _ _ rfl hM 0 rfl (rowTab _ _ rfl) (by omega) ?_) | (refine wpList_lay rfl _ _ _ rfl _ _ rfl _ _ rfl hM 1 rfl (by assumption) (rowTab _ _ rfl) (by omega) (fun k _ => by rw [Nat.zero_add]; exact flkV_one _ _ _ _ k) ?_; intro W' hM'; clear hM; have hM := hM'; clear hM'; simp only [List.set] at hM))
      have hA1 := (hM.ats 1 _ _ _ rfl).congr (g := flkV a k c m) (fun j hj => by simp [lay, hj])
      exact bodyPost_ret (results_at rfl _ rfl hA1 (rowTab _ _ rfl)) rfl ⟨m, rfl, hm0, hM.good.2, hM.good.1⟩
end Go.Proofs.YtcdpdcjdjcbhcaaDoor

/-
  impl.checkUpTo and impl.checkGrass by contracts.
-/
namespace Go.Proofs.YtcdpdcjdjcbhcaaDoor
open Go Go.RowKit Go.BigFrame

set_option maxHeartbeats 400000 in
theorem checkUpTo_no {a : Nat → Addr} (n m : Int) (w : World) (hE : Errs a w) (h : inB 0 m n = false) :
    Calls Tryd.prog 146 #[.int .i64 n, .int .i64 m] w fun e w' => e = .returned (errV (a 1)) ∧ Below w.heap.size w w' := by
  have v1 : w.cell? ⟨4, 0, none⟩ = some (errV (a 1)) := hE.vars 1 (by omega)
  have h' : ¬ (0 ≤ n ∧ n ≤ m) := of_decide_eq_false h
  clear hE h
  by_cases h0 : n < 0
  · clear h'
    go_enter Tryd.func146, Tryd.ntmps146
    go_wp2
    go_ret
    exact ⟨rfl, Below.refl _ _⟩
  · have h1 : m < n := by omega
    have d1 : decide (m < n) = true := decide_eq_true h1
    clear h'
    go_enter Tryd.func146, Tryd.ntmps146
    go_wp2
    go_ret
    exact ⟨rfl, Below.refl _ _⟩
set_option maxHeartbeats 400000 in
theorem checkUpTo_yes (n m : Int) (w : World) (h : inB 0 m n = true) :
    Calls Tryd.prog 146 #[.int .i64 n, .int .i64 m] w fun e w' => e = .returned .nilIface ∧ Below w.heap.size w w' := by
  obtain ⟨h0, h1⟩ := inB_true h
  have d0 : decide (n < 0) = false := decide_eq_false (by omega)
  have d1 : decide (m < n) = false := decide_eq_false (by omega)
  clear h h0 h1
  go_enter Tryd.func146, Tryd.ntmps146
  go_wp2
  go_ret
  exact ⟨rfl, Below.refl _ _⟩
end Go.Proofs.YtcdpdcjdjcbhcaaDoor

/-
  impl.isName, checkUpTo, (impl.member).isTold, spec.l06Name by contracts.
-/
namespace Go.Proofs.YtcdpdcjdjcbhcaaDoor
open Go Go.RowKit Go.BigFrame

theorem byteAt_eq {s : ByteArray} {k : Nat} (h : k < s.size) : (s[k]'h).toNat = byteAt s k := by
  unfold byteAt
  rw [ByteArray.getElem?_lt' s _ h]
  rfl
theorem byteAt_le (s : ByteArray) (k : Nat) : byteAt s k ≤ 255 := by
  by_cases h : k < s.size
  · rw [← byteAt_eq h]
    have := (s[k]'h).toNat_lt
    omega
  · unfold byteAt
    have : s[k]? = none := by simp; omega
    rw [this]; simp
theorem index_run {o : Oper} {a : Act} (x y : Operand) (ho : o.op = .index 9 x y) (s : ByteArray) (hx : a.eval x = .string s) (k : Nat) (hk : k < s.size) (hy : a.eval y = .int .i64 k) (W : World) :
    (execOp a.eval o).run Tryd.prog W = .ok (.value (.int .u8 (byteAt s k))) W := by
  have hb : 0 ≤ (k : Int) ∧ (k : Int) < s.size := by omega
  unfold execOp
  simp only [ho, hx, hy, Sem.run_bind, Sem.run_pure, run_index_string W 9 s .i64 (k : Int) Tryd.underlying9, dif_pos hb, Result.andThen_ok, Int.toNat_natCast]
  rw [byteAt_eq hk]
theorem wpList_index {ops : Array Oper} {rest : List Oper} {o : Oper} {a : Act} {W : World} {Q : Exit → Act → World → Prop} (hgd : o.guard = none) (x y : Operand) (ho : o.op = .index 9 x y) (s : ByteArray) (hx : a.eval x = .string s) (k : Nat) (hk : k < s.size) (hy : a.eval y = .int .i64 k) (v : Nat) (hv : byteAt s k = v)
    (h : wpList Tryd.prog ops Q rest (a.put o.dst (.int .u8 v)) W) : wpList Tryd.prog ops Q (o :: rest) a W := by
  refine wpList_plain hgd fun K hK => ?_
  unfold Oper.wp
  rw [index_run x y ho s hx k hk hy W, hv]
  exact hK _ _ h
theorem wpList_gindex {ops : Array Oper} {rest : List Oper} {o : Oper} {a : Act} {W : World} {Q : Exit → Act → World → Prop} (hw : Region.wanted o (yielded ops a.tmps) = true) (x y : Operand) (ho : o.op = .index 9 x y) (s : ByteArray) (hx : a.eval x = .string s) (k : Nat) (hk : k < s.size) (hy : a.eval y = .int .i64 k) (v : Nat) (hv : byteAt s k = v)
    (h : wpList Tryd.prog ops Q rest (a.put o.dst (.int .u8 v)) W) : wpList Tryd.prog ops Q (o :: rest) a W := by
  refine wpList_want hw fun K hK => ?_
  unfold Oper.wp
  rw [index_run x y ho s hx k hk hy W, hv]
  exact hK _ _ h

set_option maxRecDepth 100000 in
set_option maxHeartbeats 1000000 in
theorem isName_any (s : ByteArray) (w : World) :
    Calls Tryd.prog 145 #[.string s] w fun e w' => e = .returned (.bool (nameB s)) ∧ Below w.heap.size w w' := by
  by_cases h1 : s.size < 1
  · have d1 : decide ((s.size : Int) < 1) = true := decide_eq_true (by omega)
    have l1 : (s.size : Int) < 1 := by omega
    have hz : nameB s = false := by unfold nameB; rw [decide_eq_false (by omega)]; rfl
    rw [hz]
    go_enter Tryd.func145, Tryd.ntmps145
    go_wp2
    go_ret
    exact ⟨rfl, Below.refl _ _⟩
  by_cases h2 : 8 < s.size
  · have d1 : decide ((s.size : Int) < 1) = false := decide_eq_false (by omega)
    have d2 : decide ((8 : Int) < s.size) = true := decide_eq_true (by omega)
    have hz : nameB s = false := by unfold nameB; rw [decide_eq_false (by omega)]; rfl
    rw [hz]
    go_enter Tryd.func145, Tryd.ntmps145
    go_wp2
    go_ret
    exact ⟨rfl, Below.refl _ _⟩
  have d1 : decide ((s.size : Int) < 1) = false := decide_eq_false (by omega)
  have d2 : decide ((8 : Int) < s.size) = false := decide_eq_false (by omega)
  obtain ⟨n, hn⟩ : ∃ n, s.size = n := ⟨_, rfl⟩
  rw [hn] at h1 h2 d1 d2
  have Hn := Lib.hid hn
  have esz : (s.size : Int) = n := by omega
  clear hn
  go_enter Tryd.func145, Tryd.ntmps145
  go_wp2
  go_loop [14] (fun i => ∃ k : Nat, k ≤ n ∧ i = .int .i64 k ∧ Hid (∀ j, j < k → 97 ≤ byteAt s j ∧ byteAt s j ≤ 122)) (fun i => n - (intOf i).toNat)
  case atStart => exact ⟨0, by omega, rfl, Lib.hid (fun j hj => absurd hj (by omega))⟩
  case round =>
    obtain ⟨k, hk, rfl, hall⟩ := hrel
    by_cases hlt : k < n
    · have l2 : (k : Int) < n := by omega
      have hk2 : k < s.size := by rw [Hn.out]; exact hlt
      obtain ⟨v, hv⟩ : ∃ v, byteAt s k = v := ⟨_, rfl⟩
      by_cases c1 : v < 97
      · have e1 : decide ((v : Int) < 97) = true := decide_eq_true (by omega)
        have l1 : (v : Int) < 97 := by omega
        have HZ := Lib.hid (name_no hk2 (by omega))
        have Hv := Lib.hid hv
        clear hv
        go_wp2_with (first | (refine wpList_index rfl _ _ rfl s rfl k hk2 rfl v Hv.out ?_))
        go_ret
        rw [HZ.out]
        exact ⟨rfl, Below.refl _ _⟩
      by_cases c2 : 122 < v
      · have e1 : decide ((v : Int) < 97) = false := decide_eq_false (by omega)
        have e2 : decide ((122 : Int) < v) = true := decide_eq_true (by omega)
        have HZ := Lib.hid (name_no hk2 (by omega))
        have Hv := Lib.hid hv
        clear hv
        go_wp2_with (first | (refine wpList_index rfl _ _ rfl s rfl k hk2 rfl v Hv.out ?_) | (refine wpList_gindex ?_ _ _ rfl s rfl k hk2 rfl v Hv.out ?_; kernel_rfl))
        go_ret
        rw [HZ.out]
        exact ⟨rfl, Below.refl _ _⟩
      have e1 : decide ((v : Int) < 97) = false := decide_eq_false (by omega)
      have e2 : decide ((122 : Int) < v) = false := decide_eq_false (by omega)
      have HZ := Lib.hid (fun j (hj : j < k + 1) => show 97 ≤ byteAt s j ∧ byteAt s j ≤ 122 from by
        by_cases e : j = k
        · subst e; omega
        · exact hall.out j (by omega))
      have Hv := Lib.hid hv
      clear hv
      go_wp2_with (first | (refine wpList_index rfl _ _ rfl s rfl k hk2 rfl v Hv.out ?_) | (refine wpList_gindex ?_ _ _ rfl s rfl k hk2 rfl v Hv.out ?_; kernel_rfl))
      go_round
      case rel => exact ⟨k + 1, by omega, by go_num, HZ⟩
      case measure => simp [intOf]; omega
    · obtain rfl : k = n := by omega
      have hz : nameB s = true := by
        unfold nameB
        rw [decide_eq_true (by rw [Hn.out]; omega), nameU_iff.2 (by rw [Hn.out]; exact hall.out)]; rfl
      have HZ := Lib.hid hz
      clear hz
      go_wp2
      go_ret
      rw [HZ.out]
      exact ⟨rfl, Below.refl _ _⟩
end Go.Proofs.YtcdpdcjdjcbhcaaDoor

/-
  An error is not nil.
-/
namespace Go.Proofs.YtcdpdcjdjcbhcaaDoor
open Go Go.RowKit Go.BigFrame
@[go_sem] theorem guard_err (x : Operand) (a : Addr) (W : World) : (eqGuard .neq 127 x (.const .nilIface) (errV a) .nilIface).run Tryd.prog W = .ok () W := by
  unfold errV; go_simp
@[go_sem] theorem neq_err (a : Addr) (W : World) : (binOp .neq 127 (errV a) .nilIface).run Tryd.prog W = .ok (.bool true) W := by
  unfold errV; go_simp
end Go.Proofs.YtcdpdcjdjcbhcaaDoor

/-
  An error is not nil: for '=='.
-/
namespace Go.Proofs.YtcdpdcjdjcbhcaaDoor
open Go Go.RowKit Go.BigFrame
@[go_sem] theorem guardq_err (x : Operand) (a : Addr) (W : World) : (eqGuard .eql 127 x (.const .nilIface) (errV a) .nilIface).run Tryd.prog W = .ok () W := by
  unfold errV; go_simp
@[go_sem] theorem eql_err (a : Addr) (W : World) : (binOp .eql 127 (errV a) .nilIface).run Tryd.prog W = .ok (.bool false) W := by
  unfold errV; go_simp
end Go.Proofs.YtcdpdcjdjcbhcaaDoor

/-
  spec.l06Name; impl.checkUpTo, (impl.member).isTold, (impl.members).all, areFoes by contracts.
-/
namespace Go.Proofs.YtcdpdcjdjcbhcaaDoor
open Go Go.RowKit Go.BigFrame

/-- The variables that herds want: the error of a range, the table of bits. -/
structure HEnv (r : Addr) (W : World) : Prop where
  err : W.cell? ⟨4, 0, none⟩ = some (errV r)
  tab : Tab W
theorem HEnv.below {r : Addr} {W W' : World} (h : HEnv r W) (hb : Below W.heap.size W W') : HEnv r W' :=
  ⟨by rw [cell_below hb (block_lt_of_cell h.err)]; exact h.err, h.tab.below hb⟩

set_option maxRecDepth 100000 in
set_option maxHeartbeats 1000000 in
theorem l06Name_any (s : ByteArray) (hs : s.size ≤ maxLen) (w : World) :
    Calls Tryd.prog 113 #[.string s] w fun e w' => e = .returned (.bool (nameB s)) ∧ Below w.heap.size w w' := by
  have hM := Mem.nil w
  obtain ⟨n, hn⟩ : ∃ n, s.size = n := ⟨_, rfl⟩
  rw [hn] at hs
  unfold maxLen at hs
  have Hn := Lib.hid hn
  have esz : (s.size : Int) = n := by omega
  clear hn
  go_enter Tryd.func113, Tryd.ntmps113
  go_wp2
  go_loop [3] (fun i => ∃ k : Nat, k ≤ n ∧ i = .int .i64 k ∧ Hid (∀ j, j < k → 97 ≤ byteAt s j ∧ byteAt s j ≤ 122)) (fun i => n - (intOf i).toNat)
  case atStart => exact ⟨0, by omega, rfl, Lib.hid (fun j hj => absurd hj (by omega))⟩
  case round =>
    obtain ⟨k, hk, rfl, hall⟩ := hrel
    by_cases hlt : k < n
    · have l2 : (k : Int) < n := by omega
      have hk2 : k < s.size := by rw [Hn.out]; exact hlt
      obtain ⟨v, hv⟩ : ∃ v, byteAt s k = v := ⟨_, rfl⟩
      by_cases c1 : v < 97
      · have e1 : decide ((v : Int) < 97) = true := decide_eq_true (by omega)
        have l1 : (v : Int) < 97 := by omega
        have HZ := Lib.hid (name_no hk2 (by omega))
        have Hv := Lib.hid hv
        clear hv
        go_wp2_with (first | (refine wpList_index rfl _ _ rfl s rfl k hk2 rfl v Hv.out ?_))
        go_ret
        rw [HZ.out]
        exact ⟨rfl, hM.below⟩
      by_cases c2 : 122 < v
      · have e1 : decide ((v : Int) < 97) = false := decide_eq_false (by omega)
        have e2 : decide ((122 : Int) < v) = true := decide_eq_true (by omega)
        have HZ := Lib.hid (name_no hk2 (by omega))
        have Hv := Lib.hid hv
        clear hv
        go_wp2_with (first | (refine wpList_index rfl _ _ rfl s rfl k hk2 rfl v Hv.out ?_) | (refine wpList_gindex ?_ _ _ rfl s rfl k hk2 rfl v Hv.out ?_; kernel_rfl))
        go_ret
        rw [HZ.out]
        exact ⟨rfl, hM.below⟩
      have e1 : decide ((v : Int) < 97) = false := decide_eq_false (by omega)
      have e2 : decide ((122 : Int) < v) = false := decide_eq_false (by omega)
      have HZ := Lib.hid (fun j (hj : j < k + 1) => show 97 ≤ byteAt s j ∧ byteAt s j ≤ 122 from by
        by_cases e : j = k
        · subst e; omega
        · exact hall.out j (by omega))
      have Hv := Lib.hid hv
      clear hv
      go_wp2_with (first | (refine wpList_index rfl _ _ rfl s rfl k hk2 rfl v Hv.out ?_) | (refine wpList_gindex ?_ _ _ rfl s rfl k hk2 rfl v Hv.out ?_; kernel_rfl))
      go_round
      case rel => exact ⟨k + 1, by omega, by go_num, HZ⟩
      case measure => simp [intOf]; omega
    · obtain rfl : k = n := by omega
      have hz : nameB s = inB 1 8 (k : Int) := by
        unfold nameB inB
        rw [nameU_iff.2 (by rw [Hn.out]; exact hall.out), Bool.and_true, Hn.out]
        exact decide_eq_decide.2 (by omega)
      have HZ := Lib.hid hz
      clear hz
      go_wp2_with (first | (go_at_call 93; (with_reducible refine (l00In_any (k : Int) 1 8 _).mono ?_); rintro e W' ⟨rfl, hb'⟩; have hM' := hM.call hb'; clear hM hb'; have hM := hM'; clear hM'))
      go_ret
      rw [HZ.out]
      exact ⟨rfl, hM.below⟩

set_option maxHeartbeats 400000 in
theorem checkUpTo_noR {r : Addr} (n m : Int) (w : World) (hE : HEnv r w) (h : inB 0 m n = false) :
    Calls Tryd.prog 146 #[.int .i64 n, .int .i64 m] w fun e w' => e = .returned (errV r) ∧ Below w.heap.size w w' := by
  have v1 := hE.err
  have h' : ¬ (0 ≤ n ∧ n ≤ m) := of_decide_eq_false h
  clear hE h
  by_cases h0 : n < 0
  · clear h'
    go_enter Tryd.func146, Tryd.ntmps146
    go_wp2
    go_ret
    exact ⟨rfl, Below.refl _ _⟩
  · have h1 : m < n := by omega
    have d1 : decide (m < n) = true := decide_eq_true h1
    clear h'
    go_enter Tryd.func146, Tryd.ntmps146
    go_wp2
    go_ret
    exact ⟨rfl, Below.refl _ _⟩

set_option maxRecDepth 100000 in
set_option maxHeartbeats 1000000 in
theorem isTold_any {r : Addr} (d : Hd) (k : Nat) (he : -32768 ≤ d.es k ∧ d.es k ≤ 32767) (w : World) (hE : HEnv r w) :
    Calls Tryd.prog 131 #[.agg (arr 3 (gMem d k))] w fun e w' => e = .returned (.bool (toldB d k)) ∧ Below w.heap.size w w' := by
  have hM := Mem.nil w
  have HE := Lib.hid hE
  clear hE
  have g0 : gMem d k 0 = .string (d.ss k) := rfl
  have g1 : gMem d k 1 = .int .i16 (d.es k) := rfl
  have c1 : IntKind.i64.wrap (d.es k) = d.es k := IntWalk.i64_in _ (by omega)
  have ht : toldB d k = (nameB (d.ss k) && inB 0 100 (d.es k)) := rfl
  rw [ht]
  clear ht
  generalize gMem d k = g at g0 g1 ⊢
  generalize d.ss k = s at *
  generalize d.es k = x at *
  cases hn : nameB s
  · have Hn := Lib.hid hn
    clear hn
    have tk_b1 : True := trivial
    go_enter Tryd.func131, Tryd.ntmps131
    go_wp2_with (first | (have _t := tk_b1; refine wpList_box rfl _ _ rfl _ _ rfl hM ?_; intro b1 W' hb1 hM'; clear hM tk_b1; have hM := hM'; clear hM') | (refine wpList_get1 rfl _ _ rfl _ _ rfl hM 0 rfl (cellTab _ rfl) (by omega) _ g0 ?_) | (go_at_call 145; refine (isName_any s _).mono ?_; rintro e W' ⟨rfl, hb'⟩; rw [Hn.out]; have hM' := hM.call hb'; clear hM hb'; have hM := hM'; clear hM'))
    go_ret
    exact ⟨rfl, hM.below⟩
  have Hn := Lib.hid hn
  clear hn
  cases hi : inB 0 100 x
  · have Hi := Lib.hid hi
    clear hi
    have tk_b1 : True := trivial
    go_enter Tryd.func131, Tryd.ntmps131
    go_wp2_with (first | (have _t := tk_b1; refine wpList_box rfl _ _ rfl _ _ rfl hM ?_; intro b1 W' hb1 hM'; clear hM tk_b1; have hM := hM'; clear hM') | (refine wpList_get1 rfl _ _ rfl _ _ rfl hM 0 rfl (cellTab _ rfl) (by omega) _ g0 ?_) | (go_at_call 145; refine (isName_any s _).mono ?_; rintro e W' ⟨rfl, hb'⟩; rw [Hn.out]; have hM' := hM.call hb'; clear hM hb'; have hM := hM'; clear hM') | (refine wpList_gget1 ?_ _ _ rfl _ _ rfl hM 0 rfl (cellTab _ rfl) (by omega) _ g1 ?_; kernel_rfl) | (go_at_call 146; (with_reducible refine (checkUpTo_noR x 100 _ (HE.out.below hM.below) Hi.out).mono ?_); rintro e W' ⟨rfl, hb'⟩; have hM' := hM.call hb'; clear hM hb'; have hM := hM'; clear hM'))
    go_ret
    exact ⟨rfl, hM.below⟩
  · have Hi := Lib.hid hi
    clear hi
    have tk_b1 : True := trivial
    go_enter Tryd.func131, Tryd.ntmps131
    go_wp2_with (first | (have _t := tk_b1; refine wpList_box rfl _ _ rfl _ _ rfl hM ?_; intro b1 W' hb1 hM'; clear hM tk_b1; have hM := hM'; clear hM') | (refine wpList_get1 rfl _ _ rfl _ _ rfl hM 0 rfl (cellTab _ rfl) (by omega) _ g0 ?_) | (go_at_call 145; refine (isName_any s _).mono ?_; rintro e W' ⟨rfl, hb'⟩; rw [Hn.out]; have hM' := hM.call hb'; clear hM hb'; have hM := hM'; clear hM') | (refine wpList_gget1 ?_ _ _ rfl _ _ rfl hM 0 rfl (cellTab _ rfl) (by omega) _ g1 ?_; kernel_rfl) | (go_at_call 146; (with_reducible refine (checkUpTo_yes x 100 _ Hi.out).mono ?_); rintro e W' ⟨rfl, hb'⟩; have hM' := hM.call hb'; clear hM hb'; have hM := hM'; clear hM'))
    go_ret
    exact ⟨rfl, hM.below⟩

set_option maxHeartbeats 400000 in
theorem all_any (a : Option Addr) (n c : Nat) (hn : n ≤ 14) (s : Nat) (hs : 2 ^ n - 1 = s) (w : World) :
    Calls Tryd.prog 147 #[.slice a n c] w fun e w' => e = .returned (.int .u16 s) ∧ Below w.heap.size w w' := by
  have h0 : (0 : Int) ≤ n := by omega
  have h1 : (n : Int) ≤ 16 := by omega
  have h2 := u16_two n (by omega)
  have h3 : 0 < 2 ^ n := Nat.two_pow_pos n
  obtain ⟨p, hp⟩ : ∃ p, 2 ^ n = p := ⟨_, rfl⟩
  rw [hp] at h2 h3 hs
  have e : IntKind.u16.wrap (2 ^ n) = (p : Int) := by
    rw [← hp, ← IntWalk.u16_in ((2 ^ n : Nat) : Int) ⟨Int.natCast_nonneg _, by omega⟩]; simp
  have e2 : IntKind.u16.wrap ((p : Int) - 1) = (s : Int) := by rw [IntWalk.u16_in _ (by omega)]; omega
  clear hs hp
  go_enter Tryd.func147, Tryd.ntmps147
  go_wp2
  go_ret
  exact ⟨rfl, Below.refl _ _⟩

set_option maxRecDepth 100000 in
set_option maxHeartbeats 1000000 in
theorem areFoes_any (d : Hd) (a : Option Addr) (n c i k : Nat) (hi : i < n) (hk : k < 16) (hf : 0 ≤ d.fs i ∧ d.fs i ≤ 65535) (w : World) (hA : MemsAt w a n d) :
    Calls Tryd.prog 149 #[.slice a n c, .int .i64 i, .int .i64 k] w fun e w' => e = .returned (.bool (foe d i k)) ∧ Below w.heap.size w w' := by
  have hM := Mem.nil w
  obtain ⟨b, N, F, rfl, hN, -, hF, hAt⟩ := hA.row hi
  obtain ⟨s, hs⟩ : ∃ s : Nat, d.fs i = s := ⟨(d.fs i).toNat, by omega⟩
  have f2 : F (i * 3 + 2) = .int .u16 s := (hF 2 (by omega)).trans (by rw [← hs]; rfl)
  have hs2 : s < 65536 := by omega
  have he : foe d i k = s.testBit k := by unfold foe; rw [hs]; rfl
  have l2 : (i : Int) < n := by omega
  rw [he]
  have HT := Lib.hid hAt
  clear hA hF hAt hs hf he
  go_enter Tryd.func149, Tryd.ntmps149
  go_wp2_with (first | (refine wpList_getAt1 rfl _ _ rfl _ _ rfl HT.out (cellTab _ rfl) (by omega) _ f2 ?_) | (go_at_call 148; refine (has_any s hs2 k hk _).mono ?_; rintro e W' ⟨rfl, hb'⟩; have hM' := hM.call hb'; clear hM hb'; have hM := hM'; clear hM'))
  go_ret
  exact ⟨rfl, hM.below⟩
end Go.Proofs.YtcdpdcjdjcbhcaaDoor

/-
  What the rows over herds take out of their condition: the table of bits, the errors; a herd out of its reading.
-/
namespace Go.Proofs.YtcdpdcjdjcbhcaaDoor
open Go Go.RowKit Go.ChangeShapes Go.WideShapes Go.ChangeAt

theorem tab_data {H : Type} : (Rows.laid_math_bits_deBruijn32tab : DataW H) = .agg (Lib.deBruijn32tab.map fun n => .lit (.int .u8 (n : Nat))) := rfl
theorem tab_len : Lib.deBruijn32tab.length = 32 := by decide
set_option maxRecDepth 100000 in
/-- The table's cells. -/
theorem tab_of {W : World} {g : Nat} {t : TypeId} {cs : Array Value} {fuel : Nat} {p : List MemPlace}
    (hg : Tryd.prog.globalNamed "math/bits.deBruijn32tab" = some g) (ht : (Tryd.prog.globals[g]?).map (·.type) = some t) (hv : W.var? Tryd.prog "math/bits.deBruijn32tab" = some cs)
    (hd : DataW.trod (fun _ => ()) Tryd.prog W 0 (fun _ => true) false fuel t cs.toList = some (Rows.laid_math_bits_deBruijn32tab, p)) : Tab W := by
  obtain rfl := Option.some.inj ((show Tryd.prog.globalNamed "math/bits.deBruijn32tab" = some 5 by kernel_rfl).symm.trans hg)
  obtain rfl := Option.some.inj ((show (Tryd.prog.globals[5]?).map (·.type) = some 223 by kernel_rfl).symm.trans ht)
  obtain ⟨xs, m1, -, hx1, hlen, hn, hel⟩ := DataW.trod_array Tryd.underlying223 hd
  have c9 : Tryd.prog.cellsOf 5 = 1 := by kernel_rfl
  rw [c9] at hel
  simp only [Prod.mk.injEq] at hx1
  have hd := hx1.1
  rw [tab_data, DataW.agg.injEq] at hd
  have hlx : xs.length = 32 := by
    have := congrArg List.length hd
    rw [List.length_map, List.length_map, tab_len] at this
    exact this.symm
  intro k hk
  have hc := World.var?_cell hg hv k
  rw [hc]
  obtain ⟨x, hx⟩ : ∃ x, xs[k]? = some x := ⟨xs[k]'(by omega), List.getElem?_eq_getElem (by omega)⟩
  have h1 := hel k hk
  rw [hx] at h1
  obtain ⟨s, e1, rfl, -⟩ := DataW.trod_int Tryd.underlying5 h1
  have hcs : cs[k]? = some (.int .u8 s) := by
    have := congrArg (fun l => l[0]?) e1
    simpa [List.getElem?_take, List.getElem?_drop] using this
  rw [hcs]
  have hk2 : (xs.map (·.1))[k]? = some (.lit (.int .u8 s)) := by simp [hx]
  rw [← hd, List.getElem?_map] at hk2
  have hk3 : Lib.deBruijn32tab[k]? = some (Lib.deBruijn32tab.getD k 0) := by
    rw [List.getD_eq_getElem?_getD, List.getElem?_eq_getElem (by rw [tab_len]; exact hk)]; rfl
  rw [hk3] at hk2
  simp only [Option.map_some, Option.some.injEq] at hk2
  have hk4 : ((Lib.deBruijn32tab.getD k 0 : Nat) : Int) = s := by simpa using hk2
  rw [hk4]

/-- What the rows of chapter 6 give: the errors, the table. -/
def HEnvs (a : Nat → Addr) (W : World) : Prop := Errs a W ∧ Tab W
theorem HEnvs.one {a : Nat → Addr} {W : World} (h : HEnvs a W) : HEnv (a 1) W := ⟨h.1.vars 1 (by omega), h.2⟩
theorem HEnvs.below {a : Nat → Addr} {W W' : World} (h : HEnvs a W) (hb : Below W.heap.size W W') : HEnvs a W' := ⟨h.1.below hb, h.2.below hb⟩
theorem henvs_of_laid {W : World} (h : laidMetH Tryd.prog errsLaid W) : ∃ a, HEnvs a W := by
  obtain ⟨a, hE⟩ := errs_of_laid h
  refine ⟨a, hE, ?_⟩
  rw [MakeChecks.laidMetH_plain _ _ _ (by kernel_rfl)] at h
  obtain ⟨ps, ⟨gT, tT, csT, fT, pT, qT, hgT, htT, hvT, hdT, -⟩, -⟩ := h
  exact tab_of hgT htT hvT hdT
theorem many1_of {α : Type} {l : List α} (h : l.length = 1) : ∃ x0, l = [x0] := by
  match l, h with
  | [x0], _ => exact ⟨x0, rfl⟩
end Go.Proofs.YtcdpdcjdjcbhcaaDoor

/-
  strconv.FormatInt, strings.Join and strings.Builder: their numbers here.
-/
namespace Go.Proofs
open Go.Shelf
def Tryd.fmtLays_ren : Go.Shelf.Ren := ⟨fun | 173 => 52 | 246 => 100 | 283 => 122 | 284 => 123 | 285 => 124 | 286 => 125 | 129 => 138 | 317 => 137 | 318 => 139 | 319 => 140 | 320 => 141 | 337 => 151 | 338 => 152 | n => n, fun | 2 => 2 | 3 => 3 | 9 => 9 | 4 => 4 | 171 => 190 | 0 => 0 | 53 => 191 | 37 => 120 | 5 => 5 | 173 => 194 | 212 => 209 | 51 => 210 | 20 => 20 | 213 => 211 | 46 => 169 | 232 => 223 | 233 => 224 | n => n, fun | 17 => 2 | 18 => 5 | 19 => 6 | n => n⟩
theorem Tryd.fmtLays : Go.Proofs.LaysM.n173 Tryd.prog Tryd.fmtLays_ren := {
  mixed := by kernel_rfl
  f129 := Tryd.func138.trans (congrArg some (by kernel_rfl))
  f173 := Tryd.func52.trans (congrArg some (by kernel_rfl))
  f246 := Tryd.func100.trans (congrArg some (by kernel_rfl))
  f283 := Tryd.func122.trans (congrArg some (by kernel_rfl))
  f284 := Tryd.func123.trans (congrArg some (by kernel_rfl))
  f285 := Tryd.func124.trans (congrArg some (by kernel_rfl))
  f286 := Tryd.func125.trans (congrArg some (by kernel_rfl))
  f317 := Tryd.func137.trans (congrArg some (by kernel_rfl))
  f318 := Tryd.func139.trans (congrArg some (by kernel_rfl))
  f319 := Tryd.func140.trans (congrArg some (by kernel_rfl))
  f320 := Tryd.func141.trans (congrArg some (by kernel_rfl))
  f337 := Tryd.func151.trans (congrArg some (by kernel_rfl))
  f338 := Tryd.func152.trans (congrArg some (by kernel_rfl))
  t0 := Tryd.underlying0
  a0 := Tryd.isAgg0
  z0 := Tryd.sizeOf0
  v0 := Tryd.zeroValue0
  t2 := Tryd.underlying2
  a2 := Tryd.isAgg2
  z2 := Tryd.sizeOf2
  v2 := Tryd.zeroValue2
  t3 := Tryd.underlying3
  a3 := Tryd.isAgg3
  z3 := Tryd.sizeOf3
  v3 := Tryd.zeroValue3
  t4 := Tryd.underlying4
  a4 := Tryd.isAgg4
  z4 := Tryd.sizeOf4
  v4 := Tryd.zeroValue4
  t5 := Tryd.underlying5
  a5 := Tryd.isAgg5
  z5 := Tryd.sizeOf5
  v5 := Tryd.zeroValue5
  t9 := Tryd.underlying9
  a9 := Tryd.isAgg9
  z9 := Tryd.sizeOf9
  v9 := Tryd.zeroValue9
  t20 := Tryd.underlying20
  a20 := Tryd.isAgg20
  z20 := Tryd.sizeOf20
  v20 := Tryd.zeroValue20
  t37 := Tryd.underlying120
  a37 := Tryd.isAgg120
  z37 := Tryd.sizeOf120
  v37 := Tryd.zeroValue120
  t46 := Tryd.underlying169
  a46 := Tryd.isAgg169
  z46 := Tryd.sizeOf169
  v46 := Tryd.zeroValue169
  t51 := Tryd.underlying210
  a51 := Tryd.isAgg210
  z51 := Tryd.sizeOf210
  v51 := Tryd.zeroValue210
  t53 := Tryd.underlying191
  a53 := Tryd.isAgg191
  z53 := Tryd.sizeOf191
  v53 := Tryd.zeroValue191
  t171 := Tryd.underlying190
  a171 := Tryd.isAgg190
  z171 := Tryd.sizeOf190
  v171 := Tryd.zeroValue190
  t173 := Tryd.underlying194
  a173 := Tryd.isAgg194
  z173 := Tryd.sizeOf194
  v173 := Tryd.zeroValue194
  t212 := Tryd.underlying209
  a212 := Tryd.isAgg209
  z212 := Tryd.sizeOf209
  v212 := Tryd.zeroValue209
  t213 := Tryd.underlying211
  a213 := Tryd.isAgg211
  z213 := Tryd.sizeOf211
  t232 := Tryd.underlying223
  a232 := Tryd.isAgg223
  z232 := Tryd.sizeOf223
  v232 := Tryd.zeroValue223
  t233 := Tryd.underlying224
  a233 := Tryd.isAgg224
  z233 := Tryd.sizeOf224
  v233 := Tryd.zeroValue224
  g17 := by kernel_rfl
  g18 := by kernel_rfl
  g19 := by kernel_rfl
  i0 := by kernel_rfl
  i2 := by kernel_rfl
  i3 := by kernel_rfl
  i4 := by kernel_rfl
  i5 := by kernel_rfl
  i9 := by kernel_rfl
  i20 := by kernel_rfl
  i37 := by kernel_rfl
  i46 := by kernel_rfl
  i51 := by kernel_rfl
  i53 := by kernel_rfl
  i171 := by kernel_rfl
  i173 := by kernel_rfl
  i212 := by kernel_rfl
  i232 := by kernel_rfl
  i233 := by kernel_rfl
  m17 := by kernel_rfl
  m18 := by kernel_rfl
  m19 := by kernel_rfl }
def Tryd.joinLays_ren : Go.Shelf.Ren := ⟨fun | 156 => 46 | 165 => 96 | 166 => 70 | 169 => 73 | 240 => 106 | 241 => 121 | 276 => 126 | 277 => 136 | n => n, fun | 31 => 69 | 9 => 9 | 3 => 3 | 4 => 4 | 0 => 0 | 20 => 20 | 72 => 122 | 76 => 128 | 70 => 119 | 37 => 120 | 75 => 127 | 127 => 173 | 164 => 196 | 5 => 5 | 80 => 89 | n => n, fun | n => n⟩
theorem Tryd.joinLays : Go.Proofs.Lays.n156 Tryd.prog Tryd.joinLays_ren := {
  mixed := by kernel_rfl
  f156 := Tryd.func46.trans (congrArg some (by kernel_rfl))
  f165 := Tryd.func96.trans (congrArg some (by kernel_rfl))
  f166 := Tryd.func70.trans (congrArg some (by kernel_rfl))
  f169 := Tryd.func73.trans (congrArg some (by kernel_rfl))
  f240 := Tryd.func106.trans (congrArg some (by kernel_rfl))
  f241 := Tryd.func121.trans (congrArg some (by kernel_rfl))
  f276 := Tryd.func126.trans (congrArg some (by kernel_rfl))
  f277 := Tryd.func136.trans (congrArg some (by kernel_rfl))
  t0 := Tryd.underlying0
  a0 := Tryd.isAgg0
  z0 := Tryd.sizeOf0
  v0 := Tryd.zeroValue0
  t3 := Tryd.underlying3
  a3 := Tryd.isAgg3
  z3 := Tryd.sizeOf3
  v3 := Tryd.zeroValue3
  t4 := Tryd.underlying4
  a4 := Tryd.isAgg4
  z4 := Tryd.sizeOf4
  v4 := Tryd.zeroValue4
  t9 := Tryd.underlying9
  a9 := Tryd.isAgg9
  z9 := Tryd.sizeOf9
  v9 := Tryd.zeroValue9
  t20 := Tryd.underlying20
  a20 := Tryd.isAgg20
  z20 := Tryd.sizeOf20
  v20 := Tryd.zeroValue20
  t31 := Tryd.underlying69
  a31 := Tryd.isAgg69
  z31 := Tryd.sizeOf69
  v31 := Tryd.zeroValue69
  t37 := Tryd.underlying120
  a37 := Tryd.isAgg120
  z37 := Tryd.sizeOf120
  v37 := Tryd.zeroValue120
  t70 := Tryd.underlying119
  a70 := Tryd.isAgg119
  z70 := Tryd.sizeOf119
  v70 := Tryd.zeroValue119
  t72 := Tryd.underlying122
  a72 := Tryd.isAgg122
  z72 := Tryd.sizeOf122
  v72 := Tryd.zeroValue122
  t75 := Tryd.underlying127
  a75 := Tryd.isAgg127
  z75 := Tryd.sizeOf127
  v75 := Tryd.zeroValue127
  t76 := Tryd.underlying128
  a76 := Tryd.isAgg128
  z76 := Tryd.sizeOf128
  v76 := Tryd.zeroValue128
  t127 := Tryd.underlying173
  a127 := Tryd.isAgg173
  z127 := Tryd.sizeOf173
  v127 := Tryd.zeroValue173
  t164 := Tryd.underlying196
  a164 := Tryd.isAgg196
  z164 := Tryd.sizeOf196
  v164 := Tryd.zeroValue196 }
def Tryd.bstLays_ren : Go.Shelf.Ren := ⟨fun | 169 => 73 | n => n, fun | 70 => 119 | 9 => 9 | 0 => 0 | 72 => 122 | 37 => 120 | 127 => 173 | 3 => 3 | 5 => 5 | n => n, fun | n => n⟩
theorem Tryd.bstLays : Go.Proofs.Lays.n169 Tryd.prog Tryd.bstLays_ren := {
  mixed := by kernel_rfl
  f169 := Tryd.func73.trans (congrArg some (by kernel_rfl))
  t0 := Tryd.underlying0
  a0 := Tryd.isAgg0
  z0 := Tryd.sizeOf0
  v0 := Tryd.zeroValue0
  t3 := Tryd.underlying3
  a3 := Tryd.isAgg3
  z3 := Tryd.sizeOf3
  v3 := Tryd.zeroValue3
  t9 := Tryd.underlying9
  a9 := Tryd.isAgg9
  z9 := Tryd.sizeOf9
  v9 := Tryd.zeroValue9
  t37 := Tryd.underlying120
  a37 := Tryd.isAgg120
  z37 := Tryd.sizeOf120
  v37 := Tryd.zeroValue120
  t70 := Tryd.underlying119
  a70 := Tryd.isAgg119
  z70 := Tryd.sizeOf119
  v70 := Tryd.zeroValue119
  t72 := Tryd.underlying122
  a72 := Tryd.isAgg122
  z72 := Tryd.sizeOf122
  v72 := Tryd.zeroValue122
  t127 := Tryd.underlying173
  a127 := Tryd.isAgg173
  z127 := Tryd.sizeOf173
  v127 := Tryd.zeroValue173 }
end Go.Proofs

