/-
  Several texts in one: StepMap, ToSpot, SameYard, YardImpl, ListK, EqSpot, SpotS.
-/
import Derived.Test.YtmopcghkaapaoaaDoorP12
import Derived.Test.YtmopcghkaapaoaaDoorP10
import Derived.Test.YtmopcghkaapaoaaDoorP2
import Derived.Test.YtmopcghkaapaoaaDoorP5
import Derived.Test.YtmopcghkaapaoaaDoorP8
import Derived.Test.YtmopcghkaapaoaaDoorP4
import Derived.Test.YtmopcghkaapaoaaDoorP9
import Derived.Test.YtmopcghkaapaoaaDoorP1
import Derived.Deep.Slices
import Derived.ChangeSame
import Derived.Laws.MakeOwn
import Derived.Lib.Hide
/-
  PLAIN LAWS: steps of a region that draws its order: a slice literal, a call that gives a new map, a lookup in it.
-/
namespace Go.Proofs.YtmopcghkaapaoaaDoor
open Go Go.RowKit Go.Maps
variable {P : Program} {C D : World → Prop} {o : Oper} {a : Act} {w : Base} {L x : Blocks} {K : Act → (World → Prop) → Prop}

theorem kept_with (w : Base) (L x : Blocks) (m : Nat) (ob : Obj) (hob : ob.isCells = false) : Kept (Mem w L) (Mem (w.with m ob hob) (x ++ L)) where
  sub := fun W h => (kept_mem w L x).sub W h.less
  on := fun W W' h hb => h.call hb
theorem stepD_val (hk : Kept C D) (h : ∃ v, (∀ W, (execOp a.eval o).run P W = .ok (.value v) W) ∧ K (a.put o.dst v) D) : stepT P C o a D K := by
  obtain ⟨v, hr, h⟩ := h
  exact fun W hW => .inl ⟨v, _, W, .inl (hr W), hk, hW, h⟩
theorem step_slice1 (t e : TypeId) (y : Operand) (ho : o.op = .buildSlice t 1 #[(0, y)]) (m : Nat) (f : Nat → Value) (hx : a.eval y = .agg (arr m f)) (z : Value)
    (hu : P.underlying t = some (.slice e)) (hz : (P.info? e).map (fun i => (i.size, i.zero)) = some (m, some z)) (hm : 0 < m) (hm' : m ≤ 1000)
    (h : ∀ b, w.B ≤ b → K (a.put o.dst (.slice (some ⟨b, 0, none⟩) 1 1)) (Mem w (((b, m, f) :: x) ++ L))) : stepT P (Mem w L) o a (Mem w (x ++ L)) K := by
  obtain ⟨ie, hie, hq⟩ := Option.map_eq_some_iff.1 hz
  simp only [Prod.mk.injEq] at hq
  refine fun W hW => .inl ⟨_, _, _, .inl ?_, kept_mem w L ((W.heap.size, m, f) :: x), hW.alloc e m f, h _ hW.size⟩
  have hf : Instr.fill (fun i => some (i * ie.size, ie.size)) ((Array.range (1 * ie.size)).map (z.cells[· % z.cells.size]!)) (Array.map (fun x => match x with | (i, x) => (i, a.eval x)) #[(0, y)]).toList = some (arr m f) := by
    rw [hq.1]
    rw [show (Array.map (fun x => match x with | (i, x) => (i, a.eval x)) #[(0, y)]).toList = [(0, Value.agg (arr m f))] by simp [hx]]
    obtain ⟨cs, h1, h2, h3⟩ := fill_one (f := f) (place := fun i => some (i * m, m)) (i := 0) (off := 0 * m) (m := m) rfl (cs := (Array.range (1 * m)).map (z.cells[· % z.cells.size]!)) (by simp) []
    rw [h1, Instr.fill]
    refine congrArg some (arr_ext (by rw [h2]; simp) (fun k hk => ?_))
    rw [h3, if_pos (by omega)]; simp
  unfold execOp
  simp only [ho, Sem.run_bind, run_buildSlice W t e 1 _ (arr m f) ie z hu hie hq.2 (by rw [hq.1]; omega) (by rw [hq.1]; omega) hf, Result.andThen_ok]
  rfl
theorem step_call_map (ob : Obj) (hob : ob.isCells = false) (h : ∃ fn args, (∀ W, (execOp a.eval o).run P W = .ok (.enter fn args) W) ∧
    (∀ W, Mem w (x ++ L) W → Calls P fn args W fun e w' => ∃ m, e = .returned (.map (some m)) ∧ W.heap.size ≤ m ∧ Mem ((Base.of W).with m ob hob) [] w') ∧
    ∀ m, w.B ≤ m → K (a.put o.dst (.map (some m))) (Mem (w.with m ob hob) (x ++ L))) : stepT P (Mem w L) o a (Mem w (x ++ L)) K := by
  obtain ⟨fn, args, hr, hc, h⟩ := h
  exact fun W hW => .inr ⟨fn, args, hr W, (hc W hW).mono fun e w' ⟨m, he, hge, hM⟩ => ⟨.map (some m), _, he, kept_with w L x m ob hob, (hW.call hM.good.1).withO hob hM.good.2, h m (Nat.le_trans hW.size hge)⟩⟩
section
variable {T : Type} {kv : T → Value} {ok : T → Prop} {ks : List T} {f : T → Value} {kt et : TypeId} {m : Nat}
theorem stepD_look [DecidableEq T] (hk : Kept C D) (c : Bool) (t : TypeId) (y z : Operand) (ho : o.op = .lookup t y z c) (hx : a.eval y = .map (some m)) (k : T) (hy : a.eval z = kv k)
    (hT : KeyTold P kt kv ok) (ht : P.underlying t = some (.map kt et)) (zv : Value) (hz : ∀ W, (zeroValue et).run P W = .ok zv W) (hm : ∀ W, D W → W.heap[m]? = some (mapO kv ks f)) (hks : ∀ k, k ∈ ks → ok k) (hok : ok k) (v : Value) (hv : (if c then .tuple #[if k ∈ ks then f k else zv, .bool (decide (k ∈ ks))] else if k ∈ ks then f k else zv) = v)
    (h : K (a.put o.dst v) D) : stepT P C o a D K := by
  refine fun W hW => .inl ⟨v, _, W, .inl ?_, hk, hW, h⟩
  have hr := look_map hT ht (hz W) (hm W hW) hks hok c
  rw [hv] at hr
  simp only [execOp, ho, hx, hy, Sem.run_bind, hr, Result.andThen_ok]
  rfl
end
end Go.Proofs.YtmopcghkaapaoaaDoor

/-
  laws.toSpot by contract.
-/
namespace Go.Proofs.YtmopcghkaapaoaaDoor
open Go Go.RowKit Go.BigFrame

set_option maxHeartbeats 400000 in
theorem toSpot_any (f : Nat → Value) (h1 : ∀ k, (f k).oneCell' = true) (w : World) :
    Calls Tryd.prog 15 #[.agg (arr 2 f)] w fun e w' => e = .returned (.agg (arr 2 f)) ∧ Below w.heap.size w w' := by
  have hM := Mem.nil w
  have tk_b1 : True := trivial; have tk_b2 : True := trivial; have tk_b3 : True := trivial
  go_enter Tryd.func15, Tryd.ntmps15
  go_wp2_with (first | (have _t := tk_b1; refine wpList_box rfl _ _ rfl _ _ rfl hM ?_; intro b1 W' hb1 hM'; clear hM tk_b1; have hM := hM'; clear hM') | (have _t := tk_b2; refine wpList_zero rfl _ rfl (zeroTab _ _ _ rfl) hM ?_; intro b2 W' hb2 hM'; clear hM tk_b2; have hM := hM'; clear hM') | (have _t := tk_b3; refine wpList_zero rfl _ rfl (zeroTab _ _ _ rfl) hM ?_; intro b3 W' hb3 hM'; clear hM tk_b3; have hM := hM'; clear hM') | (refine wpList_get1 rfl _ _ rfl _ _ rfl hM 2 rfl (cellTab _ rfl) (by omega) _ rfl ?_) | (refine wpList_set1 rfl _ _ _ rfl _ _ rfl _ rfl ?_ hM 0 rfl (by assumption) (cellTab _ rfl) (by omega) ?_; (first | rfl | exact h1 _); intro W' hM'; clear hM; have hM := hM'; clear hM'; simp [List.set, Act.eval] at hM) | (refine wpList_get rfl _ _ rfl _ _ rfl hM 0 rfl (rowTab _ _ rfl) (by omega) ?_) | (refine wpList_lay rfl _ _ _ rfl _ _ rfl _ _ rfl hM 1 rfl (by assumption) (rowTab _ _ rfl) (by omega) ?_ ?_; (first | (intro _ _; rfl) | (intro k _; exact h1 _) | (intro k _; simp only [lay, upd]; (repeat' split) <;> first | exact h1 _ | rfl)); intro W' hM'; clear hM; have hM := hM'; clear hM'; simp only [List.set] at hM))
  have hA := (hM.ats 1 _ _ _ rfl).congr (g := f) (fun k hk => by
    rcases (show k = 0 ∨ k = 1 by omega) with rfl | rfl <;> rfl)
  exact bodyPost_ret (results_at rfl _ rfl hA (rowTab _ _ rfl)) rfl ⟨rfl, hM.below⟩

end Go.Proofs.YtmopcghkaapaoaaDoor

/-
  (impl.Pasture).sameYard, impl.SameYard by contracts; laws.FnExactSameYard returns true.
-/
namespace Go.Proofs.YtmopcghkaapaoaaDoor
open Go Go.RowKit Go.BigFrame Go.Maps

theorem found_good {g : Nat → Int} (ho : okB g = true) {x y : Nat} (hx : x ≤ 9) (hy : y ≤ 9) : (foundOf (nbOf g) ((x : Int), (y : Int))).Good In10 := by
  have h := good_at (nb := nbOf g) (good_0 (c := In10) (a := ((x : Int), (y : Int))) ⟨by show (0 : Int) ≤ x; omega, by show (x : Int) ≤ 9; omega, by show (0 : Int) ≤ y; omega, by show (y : Int) ≤ 9; omega⟩) (fun k hk n hn => nb_in ho hn) 100
  unfold foundOf; exact h
theorem same_mem {g : Nat → Int} (ho : okB g = true) {x y : Nat} (hx : x ≤ 9) (hy : y ≤ 9) (b : Int × Int) : decide (b ∈ (foundOf (nbOf g) ((x : Int), (y : Int))).q) = sameB g ((x : Int), (y : Int)) b := by
  have hG := found_good ho hx hy
  unfold sameB
  have h1 := hG.mem b
  have h2 := hG.low b
  rw [Bool.eq_iff_iff, decide_eq_true_eq, decide_eq_true_eq, h1]
  omega

set_option maxRecDepth 100000 in
set_option maxHeartbeats 2000000 in
theorem sameYard_any (g : Nat → Int) (hg : Fits g) (ho : okB g = true) (x y : Nat) (hx : x ≤ 9) (hy : y ≤ 9) (u v : Int) (hok : SpotOk (u, v)) (w : World) :
    Calls Tryd.prog 52 #[.agg (arr 122 (pas g)), .agg (arr 2 (sp x y)), .agg (arr 2 (sp u v))] w fun e w' => e = .returned (.bool (sameB g ((x : Int), (y : Int)) (u, v))) ∧ Below w.heap.size w w' := by
  have hM := Mem.nil w
  have hG := found_good ho hx hy
  have hsm := same_mem ho hx hy (u, v)
  have hks : ∀ k, k ∈ (foundOf (nbOf g) ((x : Int), (y : Int))).q → SpotOk k := fun k hk => in10_ok (hG.cells k hk)
  have hst := fun (W : World) (b : Nat) (h : At W b 2 (sp x y)) => stepsFrom_one g hg ho x y hx hy b W h
  generalize foundOf (nbOf g) ((x : Int), (y : Int)) = s at hst hsm hks hG
  obtain ⟨X, hX⟩ : ∃ X, (if (u, v) ∈ s.q then stV s.d (u, v) else .int .i64 0) = X := ⟨_, rfl⟩
  have HX := Lib.hid hX
  have Hst := Lib.hid hst
  have Hsm := Lib.hid hsm
  have Hks := Lib.hid hks
  generalize hB : sameB g ((x : Int), (y : Int)) (u, v) = B at Hsm
  clear hX hst hsm hks hG hB
  have tk_b1 : True := trivial; have tk_b2 : True := trivial; have tk_b3 : True := trivial
  go_enter Tryd.func52, Tryd.ntmps52
  go_wp2_with (first | (have _t := tk_b1; refine wpList_box rfl _ _ rfl _ _ rfl hM ?_; intro b1 W' hb1 hM'; clear hM tk_b1; have hM := hM'; clear hM') | (have _t := tk_b2; refine wpList_box rfl _ _ rfl _ _ rfl hM ?_; intro b2 W' hb2 hM'; clear hM tk_b2; have hM := hM'; clear hM') | (have _t := tk_b3; refine wpList_box rfl _ _ rfl _ _ rfl hM ?_; intro b3 W' hb3 hM'; clear hM tk_b3; have hM := hM'; clear hM'))
  ((try simp only [Act.put, List.setIfInBounds_toArray, List.set_cons_succ, List.set_cons_zero]); refine region_reads [0, 1, 4] #[true, true, false, false, true, false, false, false, false, false, false] 8 (by kernel_rfl) (by kernel_rfl) (by kernel_rfl) hM ?_; clear hM; (repeat (refine qs_plain rfl rfl ?_; first | (refine b_get _ _ rfl _ _ rfl 2 rfl (rowTab _ _ rfl) (by omega) ?_; (simp only [Act.put, List.setIfInBounds_toArray, List.set_cons_succ, List.set_cons_zero])) | (refine b_get _ _ rfl _ _ rfl 1 rfl (rowTab _ _ rfl) (by omega) ?_; (simp only [Act.put, List.setIfInBounds_toArray, List.set_cons_succ, List.set_cons_zero])) | (refine b_get _ _ rfl _ _ rfl 0 rfl (rowTab _ _ rfl) (by omega) ?_; (simp only [Act.put, List.setIfInBounds_toArray, List.set_cons_succ, List.set_cons_zero])))); (with_reducible refine qs_nil ?_))
  simp only [Nat.zero_add]
  (refine mix_one (i := 2) (by kernel_rfl) rfl (by kernel_rfl) rfl ?_)
  (refine step_slice1 _ _ _ rfl _ _ rfl _ spot_under spot_info (by omega) (by omega) ?_; intro b4 hb4; (simp only [Act.put, List.setIfInBounds_toArray, List.set_cons_succ, List.set_cons_zero]))
  (refine mix_one (i := 3) (by kernel_rfl) rfl (by kernel_rfl) rfl ?_)
  (refine step_call_map (mapO spV s.q (stV s.d)) rfl ?_; apply Exists.intro; apply Exists.intro; refine ⟨fun W => ?_, fun W hM => ?_, ?_⟩; (go_simp; exact ⟨rfl, rfl⟩); (exact Hst.out W b4 (hM.ats 0 _ _ _ rfl)); (intro m hm); (simp only [Act.put, List.setIfInBounds_toArray, List.set_cons_succ, List.set_cons_zero]))
  (refine mix_one (i := 5) (by kernel_rfl) rfl (by kernel_rfl) rfl ?_)
  (refine stepD_look (kept_with _ _ _ _ _ _) true _ _ _ rfl rfl (u, v) rfl spotT map_under (.int .i64 0) zero_i64 (fun W hW => hW.good.2) Hks.out hok (.tuple #[X, .bool B]) (by rw [if_pos rfl, ← HX.out, ← Hsm.out]; by_cases hin : (u, v) ∈ s.q <;> simp [hin]) ?_; (simp only [Act.put, List.setIfInBounds_toArray, List.set_cons_succ, List.set_cons_zero]))
  (refine mix_one (i := 6) (by kernel_rfl) rfl (by kernel_rfl) rfl ?_)
  (refine stepD_val (kept_with _ _ _ _ _ _) ?_; apply Exists.intro; refine ⟨fun W => ?_, ?_⟩; (go_simp; rfl); (simp only [Act.put, List.setIfInBounds_toArray, List.set_cons_succ, List.set_cons_zero]))
  (refine mix_two (i := 7) (j := 8) (by kernel_rfl) rfl rfl (by kernel_rfl) (by kernel_rfl) rfl rfl ?_ ?_)
  · (refine stepD_val (kept_with _ _ _ _ _ _) ?_; apply Exists.intro; refine ⟨fun W => ?_, ?_⟩; (go_simp; rfl); (simp only [Act.put, List.setIfInBounds_toArray, List.set_cons_succ, List.set_cons_zero]))
    (refine mix_two (i := 8) (j := 9) (by kernel_rfl) rfl rfl (by kernel_rfl) (by kernel_rfl) rfl rfl ?_ ?_)
    · (refine stepD_val (kept_with _ _ _ _ _ _) ?_; apply Exists.intro; refine ⟨fun W => ?_, ?_⟩; (go_simp; rfl); (simp only [Act.put, List.setIfInBounds_toArray, List.set_cons_succ, List.set_cons_zero]))
      (refine mix_one (i := 9) (by kernel_rfl) rfl (by kernel_rfl) rfl ?_)
      (refine stepD_val (kept_with _ _ _ _ _ _) ?_; apply Exists.intro; refine ⟨fun W => ?_, ?_⟩; (go_simp; rfl); (simp only [Act.put, List.setIfInBounds_toArray, List.set_cons_succ, List.set_cons_zero]))
      (refine mix_one (i := 10) (by kernel_rfl) rfl (by kernel_rfl) rfl ?_)
      (refine stepD_val (kept_with _ _ _ _ _ _) ?_; apply Exists.intro; refine ⟨fun W => ?_, ?_⟩; (go_simp; rfl); (simp only [Act.put, List.setIfInBounds_toArray, List.set_cons_succ, List.set_cons_zero]))
      (refine mix_end (by kernel_rfl) ?_; intro W' hM; simp only [List.cons_append, List.nil_append] at hM)
      go_wp2
      go_ret
      exact ⟨rfl, hM.less.below⟩
    · (refine stepD_val (kept_with _ _ _ _ _ _) ?_; apply Exists.intro; refine ⟨fun W => ?_, ?_⟩; (go_simp; rfl); (simp only [Act.put, List.setIfInBounds_toArray, List.set_cons_succ, List.set_cons_zero]))
      (refine mix_one (i := 8) (by kernel_rfl) rfl (by kernel_rfl) rfl ?_)
      (refine stepD_val (kept_with _ _ _ _ _ _) ?_; apply Exists.intro; refine ⟨fun W => ?_, ?_⟩; (go_simp; rfl); (simp only [Act.put, List.setIfInBounds_toArray, List.set_cons_succ, List.set_cons_zero]))
      (refine mix_one (i := 10) (by kernel_rfl) rfl (by kernel_rfl) rfl ?_)
      (refine stepD_val (kept_with _ _ _ _ _ _) ?_; apply Exists.intro; refine ⟨fun W => ?_, ?_⟩; (go_simp; rfl); (simp only [Act.put, List.setIfInBounds_toArray, List.set_cons_succ, List.set_cons_zero]))
      (refine mix_end (by kernel_rfl) ?_; intro W' hM; simp only [List.cons_append, List.nil_append] at hM)
      go_wp2
      go_ret
      exact ⟨rfl, hM.less.below⟩
  · (refine stepD_val (kept_with _ _ _ _ _ _) ?_; apply Exists.intro; refine ⟨fun W => ?_, ?_⟩; (go_simp; rfl); (simp only [Act.put, List.setIfInBounds_toArray, List.set_cons_succ, List.set_cons_zero]))
    (refine mix_one (i := 7) (by kernel_rfl) rfl (by kernel_rfl) rfl ?_)
    (refine stepD_val (kept_with _ _ _ _ _ _) ?_; apply Exists.intro; refine ⟨fun W => ?_, ?_⟩; (go_simp; rfl); (simp only [Act.put, List.setIfInBounds_toArray, List.set_cons_succ, List.set_cons_zero]))
    (refine mix_one (i := 9) (by kernel_rfl) rfl (by kernel_rfl) rfl ?_)
    (refine stepD_val (kept_with _ _ _ _ _ _) ?_; apply Exists.intro; refine ⟨fun W => ?_, ?_⟩; (go_simp; rfl); (simp only [Act.put, List.setIfInBounds_toArray, List.set_cons_succ, List.set_cons_zero]))
    (refine mix_one (i := 10) (by kernel_rfl) rfl (by kernel_rfl) rfl ?_)
    (refine stepD_val (kept_with _ _ _ _ _ _) ?_; apply Exists.intro; refine ⟨fun W => ?_, ?_⟩; (go_simp; rfl); (simp only [Act.put, List.setIfInBounds_toArray, List.set_cons_succ, List.set_cons_zero]))
    (refine mix_end (by kernel_rfl) ?_; intro W' hM; simp only [List.cons_append, List.nil_append] at hM)
    go_wp2
    go_ret
    exact ⟨rfl, hM.less.below⟩

theorem askC2_cases (g : Nat → Int) (x y u v : Int) : (okB g = false ∧ askC g x y (isB g u v) = 1) ∨ (okB g = true ∧ allB g (fun k => if k = 0 then (x, y) else (u, v)) 2 = false ∧ askC g x y (isB g u v) = 2) ∨ (okB g = true ∧ allB g (fun k => if k = 0 then (x, y) else (u, v)) 2 = true ∧ isB g x y = true ∧ isB g u v = true ∧ askC g x y (isB g u v) = 0) := by
  have e : allB g (fun k => if k = 0 then (x, y) else (u, v)) 2 = (isB g x y && isB g u v) := by simp [allB, List.range_succ]
  rw [e]
  unfold askC
  cases okB g <;> cases isB g x y <;> cases isB g u v <;> simp
theorem sp_two (x y u v : Int) : ∀ k, k < 2 * 2 → (if k < 2 then sp x y (0 + k) else sp u v (0 + (k - 2))) = sps (fun k => if k = 0 then (x, y) else (u, v)) k := fun k hk => by
  rcases (show k = 0 ∨ k = 1 ∨ k = 2 ∨ k = 3 by omega) with rfl | rfl | rfl | rfl <;> rfl

set_option maxRecDepth 100000 in
set_option maxHeartbeats 2000000 in
theorem implSameYard_any {a : Nat → Addr} (g : Nat → Int) (hg : Fits g) (x y u v : Int) (hu : -128 ≤ u ∧ u ≤ 127) (hv : -128 ≤ v ∧ v ≤ 127) (w : World) (hE : Errs a w) :
    Calls Tryd.prog 16 #[.agg (arr 122 (pas g)), .agg (arr 2 (sp x y)), .agg (arr 2 (sp u v))] w fun e w' => e = .returned (.tuple #[.bool (sameA g x y u v), .int .i64 (askC g x y (isB g u v))]) ∧ Below w.heap.size w w' := by
  have hM := Mem.nil w
  have HE := Lib.hid hE
  clear hE
  rcases askC2_cases g x y u v with ⟨ho, hc⟩ | ⟨ho, hi, hc⟩ | ⟨ho, hi, h1, h2, hc⟩
  · have e1 : sameA g x y u v = false := if_neg (by rw [hc]; decide)
    rw [e1, hc]
    have Ho : Hid (validB g = false) := Lib.hid (by rw [← okB_eq]; exact ho)
    clear ho hc e1
    have tk_b1 : True := trivial; have tk_b2 : True := trivial; have tk_b3 : True := trivial; have tk_b4 : True := trivial
    go_enter Tryd.func16, Tryd.ntmps16
    go_wp2_with (first | (have _t := tk_b1; refine wpList_box rfl _ _ rfl _ _ rfl hM ?_; intro b1 W' hb1 hM'; clear hM tk_b1; have hM := hM'; clear hM') | (have _t := tk_b2; refine wpList_box rfl _ _ rfl _ _ rfl hM ?_; intro b2 W' hb2 hM'; clear hM tk_b2; have hM := hM'; clear hM') | (have _t := tk_b3; refine wpList_box rfl _ _ rfl _ _ rfl hM ?_; intro b3 W' hb3 hM'; clear hM tk_b3; have hM := hM'; clear hM') | (refine wpList_get rfl _ _ rfl _ _ rfl hM 2 rfl (rowTab _ _ rfl) (by omega) ?_) | (refine wpList_get rfl _ _ rfl _ _ rfl hM 1 rfl (rowTab _ _ rfl) (by omega) ?_) | (refine wpList_get rfl _ _ rfl _ _ rfl hM 0 rfl (rowTab _ _ rfl) (by omega) ?_) | (have _t := tk_b4; refine wpList_slice2 rfl _ _ _ _ rfl _ _ _ rfl rfl _ spot_under spot_info (by omega) (by omega) hM ?_; intro b4 W' hb4 hM'; clear hM tk_b4; have hM := hM'; clear hM') | (go_at_call 50; refine (checkCells_bad g hg _ _ (HE.out.below hM.below) Ho.out).mono ?_; rintro e W' ⟨rfl, hb'⟩; have hM' := hM.call hb'; clear hM hb'; have hM := hM'; clear hM') | (go_at_call 51; (with_reducible refine (codeOf_0 (HE.out.below hM.below)).mono ?_); rintro e W' ⟨rfl, rfl⟩))
    go_ret2
    exact ⟨rfl, hM.below⟩
  · have e1 : sameA g x y u v = false := if_neg (by rw [hc]; decide)
    rw [e1, hc]
    have Ho : Hid (validB g = true) := Lib.hid (by rw [← okB_eq]; exact ho)
    have Hi : Hid (chkS a g (fun k => if k = 0 then (x, y) else (u, v)) 2 = errV (a 1)) := Lib.hid (chkS_no hi)
    clear ho hc hi e1
    have tk_b1 : True := trivial; have tk_b2 : True := trivial; have tk_b3 : True := trivial; have tk_b4 : True := trivial
    go_enter Tryd.func16, Tryd.ntmps16
    go_wp2_with (first | (have _t := tk_b1; refine wpList_box rfl _ _ rfl _ _ rfl hM ?_; intro b1 W' hb1 hM'; clear hM tk_b1; have hM := hM'; clear hM') | (have _t := tk_b2; refine wpList_box rfl _ _ rfl _ _ rfl hM ?_; intro b2 W' hb2 hM'; clear hM tk_b2; have hM := hM'; clear hM') | (have _t := tk_b3; refine wpList_box rfl _ _ rfl _ _ rfl hM ?_; intro b3 W' hb3 hM'; clear hM tk_b3; have hM := hM'; clear hM') | (refine wpList_get rfl _ _ rfl _ _ rfl hM 2 rfl (rowTab _ _ rfl) (by omega) ?_) | (refine wpList_get rfl _ _ rfl _ _ rfl hM 1 rfl (rowTab _ _ rfl) (by omega) ?_) | (refine wpList_get rfl _ _ rfl _ _ rfl hM 0 rfl (rowTab _ _ rfl) (by omega) ?_) | (have _t := tk_b4; refine wpList_slice2 rfl _ _ _ _ rfl _ _ _ rfl rfl _ spot_under spot_info (by omega) (by omega) hM ?_; intro b4 W' hb4 hM'; clear hM tk_b4; have hM := hM'; clear hM') | (go_at_call 50; refine (checkCells_some g hg _ 2 2 4 (fun k => if k = 0 then (x, y) else (u, v)) (by omega) (by decide) _ ((hM.ats 0 _ _ _ rfl).congr (sp_two _ _ _ _)) (HE.out.below hM.below) Ho.out).mono ?_; rintro e W' ⟨rfl, hb'⟩; rw [Hi.out]; have hM' := hM.call hb'; clear hM hb'; have hM := hM'; clear hM') | (go_at_call 51; (with_reducible refine (codeOf_1 (HE.out.below hM.below)).mono ?_); rintro e W' ⟨rfl, rfl⟩))
    go_ret2
    exact ⟨rfl, hM.below⟩
  · obtain ⟨x', y', e1, hx', hy'⟩ := nat_of_in (in10_of ho h1)
    simp only [Prod.mk.injEq] at e1
    obtain ⟨rfl, rfl⟩ := e1
    have es : sameA g (x' : Int) (y' : Int) u v = sameB g ((x' : Int), (y' : Int)) (u, v) := if_pos hc
    rw [es, hc]
    have Ho : Hid (validB g = true) := Lib.hid (by rw [← okB_eq]; exact ho)
    have Hok := Lib.hid ho
    have Hi : Hid (chkS a g (fun k => if k = 0 then ((x' : Int), (y' : Int)) else (u, v)) 2 = .nilIface) := Lib.hid (chkS_yes hi)
    have hsp : SpotOk (u, v) := ⟨hu.1, hu.2, hv.1, hv.2⟩
    clear ho hc hi es h1 h2
    have tk_b1 : True := trivial; have tk_b2 : True := trivial; have tk_b3 : True := trivial; have tk_b4 : True := trivial
    go_enter Tryd.func16, Tryd.ntmps16
    go_wp2_with (first | (have _t := tk_b1; refine wpList_box rfl _ _ rfl _ _ rfl hM ?_; intro b1 W' hb1 hM'; clear hM tk_b1; have hM := hM'; clear hM') | (have _t := tk_b2; refine wpList_box rfl _ _ rfl _ _ rfl hM ?_; intro b2 W' hb2 hM'; clear hM tk_b2; have hM := hM'; clear hM') | (have _t := tk_b3; refine wpList_box rfl _ _ rfl _ _ rfl hM ?_; intro b3 W' hb3 hM'; clear hM tk_b3; have hM := hM'; clear hM') | (refine wpList_get rfl _ _ rfl _ _ rfl hM 3 rfl (rowTab _ _ rfl) (by omega) ?_) | (refine wpList_get rfl _ _ rfl _ _ rfl hM 2 rfl (rowTab _ _ rfl) (by omega) ?_) | (refine wpList_get rfl _ _ rfl _ _ rfl hM 1 rfl (rowTab _ _ rfl) (by omega) ?_) | (refine wpList_get rfl _ _ rfl _ _ rfl hM 0 rfl (rowTab _ _ rfl) (by omega) ?_) | (have _t := tk_b4; refine wpList_slice2 rfl _ _ _ _ rfl _ _ _ rfl rfl _ spot_under spot_info (by omega) (by omega) hM ?_; intro b4 W' hb4 hM'; clear hM tk_b4; have hM := hM'; clear hM') | (go_at_call 50; refine (checkCells_some g hg _ 2 2 4 (fun k => if k = 0 then ((x' : Int), (y' : Int)) else (u, v)) (by omega) (by decide) _ ((hM.ats 0 _ _ _ rfl).congr (sp_two _ _ _ _)) (HE.out.below hM.below) Ho.out).mono ?_; rintro e W' ⟨rfl, hb'⟩; rw [Hi.out]; have hM' := hM.call hb'; clear hM hb'; have hM := hM'; clear hM') | (go_at_call 52; refine (sameYard_any g hg Hok.out x' y' hx' hy' u v hsp _).mono ?_; rintro e W' ⟨rfl, hb'⟩; have hM' := hM.call hb'; clear hM hb'; have hM := hM'; clear hM'))
    go_ret2
    exact ⟨rfl, hM.below⟩

theorem toSpot_sp (x y : Int) (w : World) : Calls Tryd.prog 15 #[.agg (arr 2 (sp x y))] w fun e w' => e = .returned (.agg (arr 2 (sp x y))) ∧ Below w.heap.size w w' := toSpot_any _ (fun _ => rfl) w
set_option maxRecDepth 100000 in
set_option maxHeartbeats 2000000 in
theorem lawSameYard_any {a : Nat → Addr} (g : Nat → Int) (hg : Fits g) (x y : Int) (hx : -128 ≤ x ∧ x ≤ 127) (hy : -128 ≤ y ∧ y ≤ 127) (u v : Int) (hu : -128 ≤ u ∧ u ≤ 127) (hv : -128 ≤ v ∧ v ≤ 127) (w : World) (hE : Errs a w) :
    Calls Tryd.prog 3 #[.agg (arr 122 (pas g)), .agg (arr 2 (sp x y)), .agg (arr 2 (sp u v))] w fun e w' => e = .returned (.bool true) ∧ Below w.heap.size w w' := by
  have hM := Mem.nil w
  have HE := Lib.hid hE
  clear hE
  obtain ⟨s, hs⟩ : ∃ s, sameA g x y u v = s := ⟨_, rfl⟩
  obtain ⟨c, hc⟩ : ∃ c, askC g x y (isB g u v) = c := ⟨_, rfl⟩
  have Hs := Lib.hid hs
  have Hc := Lib.hid hc
  clear hs hc
  have tk_b1 : True := trivial; have tk_b2 : True := trivial; have tk_b3 : True := trivial
  go_enter Tryd.func3, Tryd.ntmps3
  go_wp2_with (first | (have _t := tk_b1; refine wpList_box rfl _ _ rfl _ _ rfl hM ?_; intro b1 W' hb1 hM'; clear hM tk_b1; have hM := hM'; clear hM') | (have _t := tk_b2; refine wpList_box rfl _ _ rfl _ _ rfl hM ?_; intro b2 W' hb2 hM'; clear hM tk_b2; have hM := hM'; clear hM') | (have _t := tk_b3; refine wpList_box rfl _ _ rfl _ _ rfl hM ?_; intro b3 W' hb3 hM'; clear hM tk_b3; have hM := hM'; clear hM'))
  ((try simp only [Act.put, List.setIfInBounds_toArray, List.set_cons_succ, List.set_cons_zero]); refine wp_region_mem (by kernel_rfl) (by kernel_rfl) hM ?_; clear hM; (repeat (first | go_big_quiet_skip | (go_big_quiet_want; first | (refine quiet_get _ _ rfl _ _ rfl 2 rfl (rowTab _ _ rfl) (by omega) ?_; (simp only [Act.put, List.setIfInBounds_toArray, List.set_cons_succ, List.set_cons_zero]); go_big_quiet_on) | (refine quiet_get _ _ rfl _ _ rfl 1 rfl (rowTab _ _ rfl) (by omega) ?_; (simp only [Act.put, List.setIfInBounds_toArray, List.set_cons_succ, List.set_cons_zero]); go_big_quiet_on) | (refine quiet_get _ _ rfl _ _ rfl 0 rfl (rowTab _ _ rfl) (by omega) ?_; (simp only [Act.put, List.setIfInBounds_toArray, List.set_cons_succ, List.set_cons_zero]); go_big_quiet_on) | (refine quiet_call ?_; apply Exists.intro; apply Exists.intro; apply Exists.intro; refine ⟨fun W => ?_, fun W hM => ?_, ?_⟩; (go_simp; exact ⟨rfl, rfl⟩); (with_reducible exact toPasture_pas g W); (simp only [Act.put, List.setIfInBounds_toArray, List.set_cons_succ, List.set_cons_zero]); go_big_quiet_on) | (refine quiet_call ?_; apply Exists.intro; apply Exists.intro; apply Exists.intro; refine ⟨fun W => ?_, fun W hM => ?_, ?_⟩; (go_simp; exact ⟨rfl, rfl⟩); (with_reducible exact toSpot_sp x y W); (simp only [Act.put, List.setIfInBounds_toArray, List.set_cons_succ, List.set_cons_zero]); go_big_quiet_on) | (refine quiet_call ?_; apply Exists.intro; apply Exists.intro; apply Exists.intro; refine ⟨fun W => ?_, fun W hM => ?_, ?_⟩; (go_simp; exact ⟨rfl, rfl⟩); (with_reducible exact toSpot_sp u v W); (simp only [Act.put, List.setIfInBounds_toArray, List.set_cons_succ, List.set_cons_zero]); go_big_quiet_on) | (refine quiet_call ?_; apply Exists.intro; apply Exists.intro; apply Exists.intro; refine ⟨fun W => ?_, fun W hM => ?_, ?_⟩; (go_simp; exact ⟨rfl, rfl⟩); (with_reducible exact specSameYard_any g hg x y u v hx hy hu hv W); (simp only [Hs.out, Hc.out]); (simp only [Act.put, List.setIfInBounds_toArray, List.set_cons_succ, List.set_cons_zero]); go_big_quiet_on) | (refine quiet_val ?_; apply Exists.intro; refine ⟨fun W => ?_, ?_⟩; (go_simp; rfl); (simp only [Act.put, List.setIfInBounds_toArray, List.set_cons_succ, List.set_cons_zero]); go_big_quiet_on)))); (with_reducible refine wpQuiet_nil ?_); intro W' hM)
  go_wp2
  ((try simp only [Act.put, List.setIfInBounds_toArray, List.set_cons_succ, List.set_cons_zero]); refine wp_region_mem (by kernel_rfl) (by kernel_rfl) hM ?_; clear hM; (repeat (first | go_big_quiet_skip | (go_big_quiet_want; first | (refine quiet_get _ _ rfl _ _ rfl 2 rfl (rowTab _ _ rfl) (by omega) ?_; (simp only [Act.put, List.setIfInBounds_toArray, List.set_cons_succ, List.set_cons_zero]); go_big_quiet_on) | (refine quiet_get _ _ rfl _ _ rfl 1 rfl (rowTab _ _ rfl) (by omega) ?_; (simp only [Act.put, List.setIfInBounds_toArray, List.set_cons_succ, List.set_cons_zero]); go_big_quiet_on) | (refine quiet_get _ _ rfl _ _ rfl 0 rfl (rowTab _ _ rfl) (by omega) ?_; (simp only [Act.put, List.setIfInBounds_toArray, List.set_cons_succ, List.set_cons_zero]); go_big_quiet_on) | (refine quiet_call ?_; apply Exists.intro; apply Exists.intro; apply Exists.intro; refine ⟨fun W => ?_, fun W hM => ?_, ?_⟩; (go_simp; exact ⟨rfl, rfl⟩); (with_reducible exact toPasture_pas g W); (simp only [Act.put, List.setIfInBounds_toArray, List.set_cons_succ, List.set_cons_zero]); go_big_quiet_on) | (refine quiet_call ?_; apply Exists.intro; apply Exists.intro; apply Exists.intro; refine ⟨fun W => ?_, fun W hM => ?_, ?_⟩; (go_simp; exact ⟨rfl, rfl⟩); (with_reducible exact toSpot_sp x y W); (simp only [Act.put, List.setIfInBounds_toArray, List.set_cons_succ, List.set_cons_zero]); go_big_quiet_on) | (refine quiet_call ?_; apply Exists.intro; apply Exists.intro; apply Exists.intro; refine ⟨fun W => ?_, fun W hM => ?_, ?_⟩; (go_simp; exact ⟨rfl, rfl⟩); (with_reducible exact toSpot_sp u v W); (simp only [Act.put, List.setIfInBounds_toArray, List.set_cons_succ, List.set_cons_zero]); go_big_quiet_on) | (refine quiet_call ?_; apply Exists.intro; apply Exists.intro; apply Exists.intro; refine ⟨fun W => ?_, fun W hM => ?_, ?_⟩; (go_simp; exact ⟨rfl, rfl⟩); (with_reducible exact implSameYard_any g hg x y u v hu hv W (HE.out.below hM.below)); (simp only [Hs.out, Hc.out]); (simp only [Act.put, List.setIfInBounds_toArray, List.set_cons_succ, List.set_cons_zero]); go_big_quiet_on) | (refine quiet_val ?_; apply Exists.intro; refine ⟨fun W => ?_, ?_⟩; (go_simp; rfl); (simp only [Act.put, List.setIfInBounds_toArray, List.set_cons_succ, List.set_cons_zero]); go_big_quiet_on)))); (with_reducible refine wpQuiet_nil ?_); intro W' hM)
  go_wp2
  go_ret
  exact ⟨rfl, hM.below⟩
end Go.Proofs.YtmopcghkaapaoaaDoor

/-
  (impl.Pasture).yardOf and impl.YardOf by contracts.
-/
namespace Go.Proofs.YtmopcghkaapaoaaDoor
open Go Go.RowKit Go.BigFrame Go.Maps

set_option maxRecDepth 100000 in
set_option maxHeartbeats 1000000 in
theorem yardOf_any (g : Nat → Int) (hg : Fits g) (ho : okB g = true) (W H : Nat) (hW : W ≤ 10) (hH : H ≤ 10) (hg0 : g 0 = W) (hg1 : g 1 = H) (x y : Nat) (hx : x ≤ 9) (hy : y ≤ 9) (hi : isB g (x : Int) (y : Int) = true) (w : World) :
    Calls Tryd.prog 55 #[.agg (arr 122 (pas g)), .agg (arr 2 (sp (x : Int) (y : Int)))] w (Gives1 w (thatF (foundB (foundOf (nbOf g) ((x : Int), (y : Int))).d) (upto W (H * W)))) := by
  have hM := Mem.nil w
  have hp := yard_perm (g := g) hi hg0 hg1
  have hs := yard_sorted (foundOf (nbOf g) ((x : Int), (y : Int))).d W (H * W)
  have hn : ((thatF (foundB (foundOf (nbOf g) ((x : Int), (y : Int))).d) (upto W (H * W))).map castC).length ≤ 1048576 := by
    have h1 := thatF_len (p := foundB (foundOf (nbOf g) ((x : Int), (y : Int))).d) (l := upto W (H * W))
    have h2 : (upto W (H * W)).length = H * W := by simp [upto]
    have h3 := Nat.mul_le_mul hH hW
    rw [List.length_map]; omega
  have hst := fun (W : World) (b : Nat) (h : At W b 2 (sp x y)) => stepsFrom_one g hg ho x y hx hy b W h
  generalize foundOf (nbOf g) ((x : Int), (y : Int)) = s at hst hp hs hn
  generalize hl : thatF (foundB s.d) (upto W (H * W)) = l at hp hs hn ⊢
  have Hp := Lib.hid hp
  have Hs := Lib.hid hs
  have Hn := Lib.hid hn
  have Hst := Lib.hid hst
  clear hp hs hn hst hl hi ho
  have tk_b1 : True := trivial; have tk_b2 : True := trivial; have tk_b3 : True := trivial
  go_enter Tryd.func55, Tryd.ntmps55
  go_wp2_with (first | (have _t := tk_b1; refine wpList_box rfl _ _ rfl _ _ rfl hM ?_; intro b1 W' hb1 hM'; clear hM tk_b1; have hM := hM'; clear hM') | (have _t := tk_b2; refine wpList_box rfl _ _ rfl _ _ rfl hM ?_; intro b2 W' hb2 hM'; clear hM tk_b2; have hM := hM'; clear hM') | (refine wpList_get rfl _ _ rfl _ _ rfl hM 1 rfl (rowTab _ _ rfl) (by omega) ?_) | (refine wpList_get rfl _ _ rfl _ _ rfl hM 0 rfl (rowTab _ _ rfl) (by omega) ?_) | (have _t := tk_b3; refine wpList_slice1 rfl _ _ _ rfl _ _ rfl _ spot_under spot_info (by omega) (by omega) hM ?_; intro b3 W' hb3 hM'; clear hM tk_b3; have hM := hM'; clear hM') | (go_at_call 72; refine (Hst.out _ b3 ((hM.ats 0 _ _ _ rfl).congr (fun k _ => by rw [Nat.zero_add]))).mono ?_; rintro e W' ⟨m, rfl, hm, hMm⟩; have hM' := (hM.call hMm.good.1).withO (o := mapO spV s.q (stV s.d)) rfl hMm.good.2; clear hM hMm; have hM := hM'; clear hM') | (go_at_call 88; refine (inOrder_any m s.q (l.map castC) (stV s.d) Hp.out Hs.out Hn.out _ hM.good.2).mono ?_; rintro e W2 ⟨v0, rfl, hL0⟩; have hU := Lst.up hM.less hL0; clear hL0))
  go_ret
  refine ⟨_, rfl, ?_⟩
  have := hU.1
  rw [List.length_map, sI_cast] at this
  exact this

set_option maxRecDepth 100000 in
set_option maxHeartbeats 4000000 in
theorem implYardOf_any {a : Nat → Addr} (g : Nat → Int) (hg : Fits g) (x y : Int) (w : World) (hE : Errs a w) :
    Calls Tryd.prog 20 #[.agg (arr 122 (pas g)), .agg (arr 2 (sp x y))] w (GivesS w (yardL g x y) (yardC g x y)) := by
  have hM := Mem.nil w
  have HE := Lib.hid hE
  clear hE
  rcases askC_cases g x y true with ⟨ho, hc⟩ | ⟨ho, hi, hc⟩ | ⟨ho, hi, -, hc⟩
  · have e1 : yardL g x y = [] := if_neg (by unfold yardC; rw [hc]; decide)
    have e2 : yardC g x y = 1 := hc
    rw [e1, e2]
    have Ho : Hid (validB g = false) := Lib.hid (by rw [← okB_eq]; exact ho)
    clear ho hc e1 e2
    have tk_b1 : True := trivial; have tk_b2 : True := trivial; have tk_b3 : True := trivial
    go_enter Tryd.func20, Tryd.ntmps20
    go_wp2_with (first | (have _t := tk_b1; refine wpList_box rfl _ _ rfl _ _ rfl hM ?_; intro b1 W' hb1 hM'; clear hM tk_b1; have hM := hM'; clear hM') | (have _t := tk_b2; refine wpList_box rfl _ _ rfl _ _ rfl hM ?_; intro b2 W' hb2 hM'; clear hM tk_b2; have hM := hM'; clear hM') | (refine wpList_get rfl _ _ rfl _ _ rfl hM 1 rfl (rowTab _ _ rfl) (by omega) ?_) | (refine wpList_get rfl _ _ rfl _ _ rfl hM 0 rfl (rowTab _ _ rfl) (by omega) ?_) | (have _t := tk_b3; refine wpList_slice1 rfl _ _ _ rfl _ _ rfl _ spot_under spot_info (by omega) (by omega) hM ?_; intro b3 W' hb3 hM'; clear hM tk_b3; have hM := hM'; clear hM') | (go_at_call 50; refine (checkCells_bad g hg _ _ (HE.out.below hM.below) Ho.out).mono ?_; rintro e W' ⟨rfl, hb'⟩; have hM' := hM.call hb'; clear hM hb'; have hM := hM'; clear hM') | (go_at_call 51; (with_reducible refine (codeOf_0 (HE.out.below hM.below)).mono ?_); rintro e W' ⟨rfl, rfl⟩))
    go_ret2
    exact ⟨_, rfl, .inl ⟨rfl, rfl, Mem.start hM.good⟩⟩
  · have e1 : yardL g x y = [] := if_neg (by unfold yardC; rw [hc]; decide)
    have e2 : yardC g x y = 2 := hc
    rw [e1, e2]
    have Ho : Hid (validB g = true) := Lib.hid (by rw [← okB_eq]; exact ho)
    have Hi : Hid (chkS a g (fun _ => (x, y)) 1 = errV (a 1)) := Lib.hid (chkS_no (by rw [allB_one]; simpa using hi))
    clear ho hc hi e1 e2
    have tk_b1 : True := trivial; have tk_b2 : True := trivial; have tk_b3 : True := trivial
    go_enter Tryd.func20, Tryd.ntmps20
    go_wp2_with (first | (have _t := tk_b1; refine wpList_box rfl _ _ rfl _ _ rfl hM ?_; intro b1 W' hb1 hM'; clear hM tk_b1; have hM := hM'; clear hM') | (have _t := tk_b2; refine wpList_box rfl _ _ rfl _ _ rfl hM ?_; intro b2 W' hb2 hM'; clear hM tk_b2; have hM := hM'; clear hM') | (refine wpList_get rfl _ _ rfl _ _ rfl hM 1 rfl (rowTab _ _ rfl) (by omega) ?_) | (refine wpList_get rfl _ _ rfl _ _ rfl hM 0 rfl (rowTab _ _ rfl) (by omega) ?_) | (have _t := tk_b3; refine wpList_slice1 rfl _ _ _ rfl _ _ rfl _ spot_under spot_info (by omega) (by omega) hM ?_; intro b3 W' hb3 hM'; clear hM tk_b3; have hM := hM'; clear hM') | (go_at_call 50; refine (checkCells_some g hg _ 1 1 2 (fun _ => (x, y)) (by omega) (by decide) _ ((hM.ats 0 _ _ _ rfl).congr (sp_sps0 _ _)) (HE.out.below hM.below) Ho.out).mono ?_; rintro e W' ⟨rfl, hb'⟩; rw [Hi.out]; have hM' := hM.call hb'; clear hM hb'; have hM := hM'; clear hM') | (go_at_call 51; (with_reducible refine (codeOf_1 (HE.out.below hM.below)).mono ?_); rintro e W' ⟨rfl, rfl⟩))
    go_ret2
    exact ⟨_, rfl, .inl ⟨rfl, rfl, Mem.start hM.good⟩⟩
  · obtain ⟨x', y', e1, hx', hy'⟩ := nat_of_in (in10_of ho hi)
    simp only [Prod.mk.injEq] at e1
    obtain ⟨rfl, rfl⟩ := e1
    have h0 : yardC g (x' : Int) (y' : Int) = 0 := hc
    have hl : yardL g (x' : Int) (y' : Int) = thatF (foundB (foundOf (nbOf g) ((x' : Int), (y' : Int))).d) (upto (g 0).toNat ((g 1).toNat * (g 0).toNat)) := if_pos h0
    rw [hl, h0]
    have ho' := ho
    unfold okB at ho'
    rw [Bool.and_eq_true, Bool.and_eq_true] at ho'
    have i0 := inB_true ho'.1.1
    have i1 := inB_true ho'.1.2
    have hY := fun W => yardOf_any g hg ho (g 0).toNat (g 1).toNat (by omega) (by omega) (by omega) (by omega) x' y' hx' hy' hi W
    generalize thatF (foundB (foundOf (nbOf g) ((x' : Int), (y' : Int))).d) (upto (g 0).toNat ((g 1).toNat * (g 0).toNat)) = l at hY
    have HY := Lib.hid hY
    have Ho : Hid (validB g = true) := Lib.hid (by rw [← okB_eq]; exact ho)
    have Hi : Hid (chkS a g (fun _ => ((x' : Int), (y' : Int))) 1 = .nilIface) := Lib.hid (chkS_yes (by rw [allB_one]; simpa using hi))
    clear ho hc hi hl h0 ho' i0 i1 hY
    have tk_b1 : True := trivial; have tk_b2 : True := trivial; have tk_b3 : True := trivial
    go_enter Tryd.func20, Tryd.ntmps20
    go_wp2_with (first | (have _t := tk_b1; refine wpList_box rfl _ _ rfl _ _ rfl hM ?_; intro b1 W' hb1 hM'; clear hM tk_b1; have hM := hM'; clear hM') | (have _t := tk_b2; refine wpList_box rfl _ _ rfl _ _ rfl hM ?_; intro b2 W' hb2 hM'; clear hM tk_b2; have hM := hM'; clear hM') | (refine wpList_get rfl _ _ rfl _ _ rfl hM 2 rfl (rowTab _ _ rfl) (by omega) ?_) | (refine wpList_get rfl _ _ rfl _ _ rfl hM 1 rfl (rowTab _ _ rfl) (by omega) ?_) | (refine wpList_get rfl _ _ rfl _ _ rfl hM 0 rfl (rowTab _ _ rfl) (by omega) ?_) | (have _t := tk_b3; refine wpList_slice1 rfl _ _ _ rfl _ _ rfl _ spot_under spot_info (by omega) (by omega) hM ?_; intro b3 W' hb3 hM'; clear hM tk_b3; have hM := hM'; clear hM') | (go_at_call 50; refine (checkCells_some g hg _ 1 1 2 (fun _ => ((x' : Int), (y' : Int))) (by omega) (by decide) _ ((hM.ats 0 _ _ _ rfl).congr (sp_sps0 _ _)) (HE.out.below hM.below) Ho.out).mono ?_; rintro e W' ⟨rfl, hb'⟩; rw [Hi.out]; have hM' := hM.call hb'; clear hM hb'; have hM := hM'; clear hM') | (go_at_call 55; refine (HY.out _).mono ?_; rintro e W2 ⟨v0, rfl, hL0⟩; have hU := Lst.up hM hL0; clear hL0))
    go_ret2
    exact ⟨_, rfl, hU.1⟩
theorem yardL_len (g : Nat → Int) (x y : Int) : (yardL g x y).length ≤ 1048576 := by
  unfold yardL
  split
  · rename_i h
    obtain ⟨ho, -, -⟩ := askC_0 h
    unfold okB at ho
    rw [Bool.and_eq_true, Bool.and_eq_true] at ho
    have i0 := inB_true ho.1.1
    have i1 := inB_true ho.1.2
    have h1 := thatF_len (p := foundB (foundOf (nbOf g) (x, y)).d) (l := upto (g 0).toNat ((g 1).toNat * (g 0).toNat))
    have h2 : (upto (g 0).toNat ((g 1).toNat * (g 0).toNat)).length = (g 1).toNat * (g 0).toNat := by simp [upto]
    have h3 := Nat.mul_le_mul (show (g 1).toNat ≤ 10 by omega) (show (g 0).toNat ≤ 10 by omega)
    omega
  · simp
end Go.Proofs.YtmopcghkaapaoaaDoor

/-
  Lists as arguments: make; what lies in memory of old; a number and a spot out of a reading.
-/
namespace Go.Proofs.YtmopcghkaapaoaaDoor
open Go Go.RowKit Go.BigFrame Go.ChangeShapes Go.WideShapes Go.Deep

/-! ### make -/
variable {P : Program} {ops : Array Oper} {rest : List Oper} {o : Oper} {a : Act} {w : Base} {W : World} {Q : Exit → Act → World → Prop} {L : Blocks}
theorem made_arr (m N : Nat) (z : Nat → Value) (hm : 0 < m) : madeCells (arr m z) N = arr N (fun k => z (k % m)) := by
  refine arr_ext (by simp [madeCells]) (fun k hk => ?_)
  have : k % m < m := Nat.mod_lt _ hm
  simp [madeCells, hk, arr_size, getElem!_def, arr_at this]
theorem wpList_make (hgd : o.guard = none) (t e : TypeId) (x y : Operand) (ho : o.op = .makeSlice t x y) (n : Nat) (hx : a.eval x = .int .i64 n) (hy : a.eval y = .int .i64 n) (m : Nat) (z : Nat → Value) (bs : Nat)
    (hu : P.underlying t = some (.slice e)) (hz : (P.info? e).map (fun i => (i.size, i.zero, i.bytes)) = some (m, some (.agg (arr m z)), bs)) (hm : 0 < m) (hbs : bs ≤ 1000) (hn : n ≤ 1048576) (hM : Mem w L W)
    (h : ∀ b W', w.B ≤ b → Mem w ((b, n * m, fun k => z (k % m)) :: L) W' → wpList P ops Q rest (a.put o.dst (.slice (some ⟨b, 0, none⟩) n n)) W') : wpList P ops Q (o :: rest) a W := by
  obtain ⟨ie, hie, hq⟩ := Option.map_eq_some_iff.1 hz
  simp only [Prod.mk.injEq] at hq
  obtain ⟨q1, q2, q3⟩ := hq
  refine wpList_plain hgd fun K hK => ?_
  have hb : (ie.bytes : Int) * (n : Int) ≤ 281474976710656 := by
    rw [q3]
    have : bs * n ≤ 1000 * 1048576 := Nat.mul_le_mul hbs hn
    have h2 : ((bs * n : Nat) : Int) ≤ 1000 * 1048576 := by omega
    rw [Int.natCast_mul] at h2
    omega
  have hr := run_make (P := P) W t e ie (.agg (arr m z)) hu hie q2 .i64 .i64 n n (by omega) (Int.le_refl _) hb (by omega)
  simp only [Int.toNat_natCast, Value.cells, q1, made_arr m _ z hm] at hr
  unfold Oper.wp execOp
  simp only [ho, hx, hy, Sem.run_bind, Sem.run_pure, hr, Result.andThen_ok]
  exact hK _ _ (h _ _ hM.size (hM.alloc e (n * m) _))

/-- A block of a call that lets lie all that lay, beside those that are known. -/
theorem Mem.fresh' {b0 : Base} {L : Blocks} {X X' : World} {b n : Nat} {f : Nat → Value} (hM : Mem b0 L X) (hb : Below X.heap.size X X') (ha : At X' b n f) (hge : X.heap.size ≤ b) : Mem b0 (L ++ [(b, n, f)]) X' :=
  (hM.call hb).old ha (fun i p h e => by
    have := (hM.ats i p.1 p.2.1 p.2.2 h).lt
    omega)

/-! ### What lies in memory of old -/
def Lies (W : World) (b o n : Nat) (f : Nat → Value) : Prop := ∀ k, k < n → W.cell? ⟨b, o + k, none⟩ = some (f k)
theorem Lies.below {w W : World} {b o n : Nat} {f : Nat → Value} (h : Lies w b o n f) (hb : Below w.heap.size w W) : Lies W b o n f := fun k hk => by
  have := h k hk
  rw [hb.cell (p := ⟨b, o + k, none⟩) (block_lt_of_cell this)]
  exact this
theorem wpList_getL (hgd : o.guard = none) (ty : TypeId) (x : Operand) (ho : o.op = .load ty x) (b off : Nat) (hx : a.eval x = .pointer (some ⟨b, off, none⟩)) (b0 n : Nat) {f : Nat → Value}
    (hL : Lies W b b0 n f) {m : Nat} (hT : RowT P ty m) (i : Nat) (hi : off = b0 + i) (hle : i + m ≤ n)
    (h : wpList P ops Q rest (a.put o.dst (.agg (arr m (fun k => f (i + k))))) W) : wpList P ops Q (o :: rest) a W := by
  obtain ⟨⟨d, hu, hd⟩, hm⟩ := hT
  subst hi
  have hr : W.rangeAt b (b0 + i) (arr m (fun k => f (i + k))).toList := fun j v hv => by
    rw [arr_toList] at hv
    have hj : j < m := by have := (List.getElem?_eq_some_iff.1 hv).1; simpa using this
    simp [hj] at hv
    rw [← hv, Nat.add_assoc]
    exact hL (i + j) (by omega)
  exact wpList_load_mid hgd ty x ho b (b0 + i) hx (arr m (fun k => f (i + k))).toList d hr hu hd (by rw [hm]; simp [arr_size]) (by simpa using h)

section
variable {H : Type} {enc : TypeId × Value → H} {w : World} {base : Nat} {spare : Nat → Bool} {held : Bool}
theorem trod_num {t : TypeId} {κ : IntKind} (ht : Tryd.prog.underlying t = some (.int κ)) {fuel : Nat} {cs : List Value} {x : DataW H × List MemPlace} (h : DataW.trod enc Tryd.prog w base spare held fuel t cs = some x) : ∃ n, cs = [.int κ n] ∧ κ.has n := by
  obtain ⟨n, h1, -, h2⟩ := DataW.trod_int ht h
  exact ⟨n, h1, by simpa [Lit.wf, IntKind.has] using h2⟩
set_option maxRecDepth 100000 in
theorem spot_cells {fuel : Nat} {cs : List Value} {x : DataW H × List MemPlace} (h : DataW.trod enc Tryd.prog w base spare held fuel 31 cs = some x) :
    ∃ p q : Int, cs = [.int .i8 p, .int .i8 q] ∧ (-128 ≤ p ∧ p ≤ 127) ∧ (-128 ≤ q ∧ q ≤ 127) := by
  obtain ⟨xs, n, -, -, hlen, hxl, hf⟩ := DataW.trod_struct Tryd.underlying31 h
  have e : Tryd.prog.cellsOf 31 = 2 := by kernel_rfl
  have e8 : Tryd.prog.cellsOf 22 = 1 := by kernel_rfl
  rw [e] at hlen
  match cs, hlen with
  | [c0, c1], _ =>
    match xs, hxl with
    | [y0, y1], _ =>
      have h0 := hf 0 _ rfl
      have h1 := hf 1 _ rfl
      change DataW.trod _ _ _ _ _ _ _ 22 ((List.drop 0 [c0, c1]).take (Tryd.prog.cellsOf 22)) = some y0 at h0
      change DataW.trod _ _ _ _ _ _ _ 22 ((List.drop 1 [c0, c1]).take (Tryd.prog.cellsOf 22)) = some y1 at h1
      rw [e8] at h0 h1
      obtain ⟨p, hp, bp⟩ := trod_num Tryd.underlying22 h0
      obtain ⟨q, hq, bq⟩ := trod_num Tryd.underlying22 h1
      simp at hp hq
      exact ⟨p, q, by rw [hp, hq], has_i8 bp, has_i8 bq⟩
end
end Go.Proofs.YtmopcghkaapaoaaDoor

/-
  laws.eqSpot on what is equal.
-/
namespace Go.Proofs.YtmopcghkaapaoaaDoor
open Go Go.RowKit Go.BigFrame

set_option maxHeartbeats 400000 in
theorem eqSpot_same (x y : Int) (w : World) :
    Calls Tryd.prog 56 #[.agg (arr 2 (sp x y)), .agg (arr 2 (sp x y))] w fun e w' => e = .returned (.bool true) ∧ Below w.heap.size w w' := by
  have hM := Mem.nil w
  have e0 : sp x y 0 = .int .i8 x := rfl
  have e1 : sp x y 1 = .int .i8 y := rfl
  have tk_b1 : True := trivial; have tk_b2 : True := trivial
  go_enter Tryd.func56, Tryd.ntmps56
  go_wp2_with (first | (have _t := tk_b1; refine wpList_box rfl _ _ rfl _ _ rfl hM ?_; intro b1 W' hb1 hM'; clear hM tk_b1; have hM := hM'; clear hM') | (have _t := tk_b2; refine wpList_box rfl _ _ rfl _ _ rfl hM ?_; intro b2 W' hb2 hM'; clear hM tk_b2; have hM := hM'; clear hM') | (refine wpList_get1 rfl _ _ rfl _ _ rfl hM 1 rfl (cellTab _ rfl) (by omega) _ rfl ?_) | (refine wpList_get1 rfl _ _ rfl _ _ rfl hM 0 rfl (cellTab _ rfl) (by omega) _ rfl ?_))
  go_ret
  exact ⟨rfl, hM.below⟩

end Go.Proofs.YtmopcghkaapaoaaDoor

/-
  Lists of spots: an argument opened to cells; laws.szSpotS, laws.toSpotS, laws.eqSpotS by contracts.
-/
namespace Go.Proofs.YtmopcghkaapaoaaDoor
open Go Go.RowKit Go.BigFrame Go.ChangeShapes Go.WideShapes Go.Deep

/-- A spot's numbers fit their kind. -/
def FitsS (p : Int × Int) : Prop := (-128 ≤ p.1 ∧ p.1 ≤ 127) ∧ (-128 ≤ p.2 ∧ p.2 ≤ 127)
def SpotArg (W : World) (v : Value) (n : Nat) (s : Nat → Int × Int) : Prop :=
  (n = 0 ∧ v = .slice none 0 0) ∨ ∃ b o c, v = .slice (some ⟨b, o, none⟩) n c ∧ Lies W b o (n * 2) (sps s)
theorem SpotArg.below {w W : World} {v : Value} {n : Nat} {s : Nat → Int × Int} (h : SpotArg w v n s) (hb : Below w.heap.size w W) : SpotArg W v n s := by
  rcases h with h | ⟨b, o, c, e, h⟩
  · exact .inl h
  · exact .inr ⟨b, o, c, e, h.below hb⟩
section
variable {H : Type} {enc : TypeId × Value → H} {w : World} {base : Nat} {spare : Nat → Bool} {held : Bool}
set_option maxRecDepth 100000 in
/-- A list of spots out of its type and its reading. -/
theorem open_spots {t : TypeId} (ht : Tryd.prog.underlying t = some (.slice 31)) {b0 : Nat} {v : Value} {d : DataW H} {p : List MemPlace} (hval : Value.okWide Tryd.prog w .any b0 t v) (h : DataW.Trod enc Tryd.prog w base spare held t v d p) :
    ∃ n s, n ≤ maxLen ∧ (∀ i, i < n → FitsS (s i)) ∧ SpotArg w v n s := by
  obtain ⟨fuel, h⟩ := h
  have e : Tryd.prog.cellsOf 31 = 2 := by kernel_rfl
  obtain ⟨sa, sl, sc, rfl⟩ := okWide_slice ht hval
  rcases open_slice ht h with ⟨h1, -⟩ | ⟨a, len, cap, m, n, D, Pl, hcs, hb, hl, hm, hmm, -, hi⟩
  · simp only [Value.cells] at h1
    obtain ⟨rfl, rfl, rfl⟩ : sa = none ∧ sl = 0 ∧ sc = 0 := by simpa using h1
    exact ⟨0, fun _ => (0, 0), by decide, fun i hi => absurd hi (by omega), .inl ⟨rfl, rfl⟩⟩
  · obtain ⟨e1, e2, e3⟩ : sa = some a ∧ sl = len ∧ sc = cap := by simpa [Value.cells] using hcs
    subst e1 e2 e3
    have hlen : sl ≤ m := by rw [hmm]; split <;> omega
    rw [e] at hi
    have key : ∀ i, ∃ g : Int × Int, i < sl → (FitsS g ∧ ∀ j, j < 2 → w.cell? (a.add (i * 2 + j)) = some (sp g.1 g.2 j)) := fun i => by
      by_cases hil : i < sl
      · obtain ⟨cs', hc, ht'⟩ := hi i (by omega)
        obtain ⟨p, q, hg, fp, fq⟩ := spot_cells ht'
        obtain ⟨-, -, hat⟩ := World.cells?_some hc
        refine ⟨(p, q), fun _ => ⟨⟨fp, fq⟩, fun j hj => ?_⟩⟩
        have := hat j hj
        rw [← Go.Deep.add_add] 
        rw [this, hg]
        rcases (show j = 0 ∨ j = 1 by omega) with rfl | rfl <;> rfl
      · exact ⟨(0, 0), fun h => absurd h hil⟩
    have hspot : a.spot = none := by
      unfold Value.okWide at hval
      rw [ht] at hval
      simp only [Cell.okWide, Cell.ok, ht] at hval
      exact hval.2.2.2.1
    obtain ⟨ab, ao, asp⟩ := a
    simp only at hspot
    subst hspot
    refine ⟨sl, fun i => (key i).choose, by omega, fun i hil => ((key i).choose_spec hil).1, .inr ⟨ab, ao, sc, rfl, fun k hk => ?_⟩⟩
    have hki := ((key (k / 2)).choose_spec (by omega)).2 (k % 2) (by omega)
    rw [show k / 2 * 2 + k % 2 = k by omega] at hki
    have e2 : (⟨ab, ao, none⟩ : Addr).add k = ⟨ab, ao + k, none⟩ := by
      unfold Addr.add
      by_cases h0 : k = 0
      · simp [h0]
      · simp [h0]
    rw [e2] at hki
    have hs := sps_row (fun i => (key i).choose) (k / 2) (k % 2) (by omega)
    rw [show k / 2 * 2 + k % 2 = k by omega] at hs
    rw [hki, hs]
end

theorem szSpotS_no (v : Value) (n : Nat) (s : Nat → Int × Int) (left : Int) (hn : n ≤ maxLen) (hl : left < n) (h0 : 0 ≤ left) (hl2 : left ≤ 1048576) (w : World) (h : SpotArg w v n s) :
    Calls Tryd.prog 38 #[v, .int .i64 left] w fun e w' => e = .returned (.int .i64 (-1)) ∧ Below w.heap.size w w' := by
  unfold maxLen at hn
  rcases h with ⟨rfl, rfl⟩ | ⟨b, o, c, rfl, h⟩
  · omega
  · have c1 : IntKind.i64.wrap (left - n) = left - n := IntWalk.i64_in _ (by omega)
    have d1 : decide (left - n < 0) = true := decide_eq_true (by omega)
    clear h
    go_enter Tryd.func38, Tryd.ntmps38
    go_wp2
    go_ret
    exact ⟨rfl, Below.refl _ _⟩
theorem szSpotS_yes (v : Value) (n : Nat) (s : Nat → Int × Int) (left : Int) (hl : (n : Int) ≤ left) (hl2 : left ≤ 1048576) (w : World) (h : SpotArg w v n s) :
    Calls Tryd.prog 38 #[v, .int .i64 left] w fun e w' => e = .returned (.int .i64 (left - n)) ∧ Below w.heap.size w w' := by
  rcases h with ⟨rfl, rfl⟩ | ⟨b, o, c, rfl, h⟩
  · have c1 : IntKind.i64.wrap left = left := IntWalk.i64_in _ (by omega)
    have d1 : decide (left < 0) = false := decide_eq_false (by omega)
    go_enter Tryd.func38, Tryd.ntmps38
    go_wp2
    go_ret
    exact ⟨by simp, Below.refl _ _⟩
  · have c1 : IntKind.i64.wrap (left - n) = left - n := IntWalk.i64_in _ (by omega)
    have d1 : decide (left - n < 0) = false := decide_eq_false (by omega)
    clear h
    go_enter Tryd.func38, Tryd.ntmps38
    go_wp2
    go_ret
    exact ⟨rfl, Below.refl _ _⟩

/-- A new list of spots. -/
def GivenS (n : Nat) (s : Nat → Int × Int) (w : World) (e : Ending) (w' : World) : Prop := ∃ b, e = .returned (.slice (some ⟨b, 0, none⟩) n n) ∧ w.heap.size ≤ b ∧ At w' b (n * 2) (sps s) ∧ Below w.heap.size w w'
set_option maxRecDepth 100000 in
set_option maxHeartbeats 1000000 in
theorem toSpotS_any (v : Value) (n : Nat) (s : Nat → Int × Int) (hn : n ≤ 1048576) (w : World) (h : SpotArg w v n s) : Calls Tryd.prog 40 #[v] w (GivenS n s w) := by
  have hM := Mem.nil w
  rcases h with ⟨rfl, rfl⟩ | ⟨b, o, c, rfl, hL⟩
  · have tk_b1 : True := trivial
    go_enter Tryd.func40, Tryd.ntmps40
    go_wp2_with (first | (have _t := tk_b1; refine wpList_make rfl _ _ _ _ rfl 0 rfl rfl 2 (fun _ => .int .i8 0) 2 Tryd.underlying41 spot_infoB (by omega) (by omega) (by omega) hM ?_; intro b1 W' hb1 hM'; clear hM tk_b1; have hM := hM'; clear hM'))
    refine wp_loop_rounds 1 ?_
    rw [rounds_succ]
    go_wp2
    go_ret
    exact ⟨b1, rfl, hb1, (hM.ats 0 _ _ _ rfl).congr (fun k hk => by omega), hM.below⟩
  · have HL := Lib.hid hL
    clear hL
    have tk_b1 : True := trivial
    go_enter Tryd.func40, Tryd.ntmps40
    go_wp2_with (first | (have _t := tk_b1; refine wpList_make rfl _ _ _ _ rfl n rfl rfl 2 (fun _ => .int .i8 0) 2 Tryd.underlying41 spot_infoB (by omega) (by omega) hn hM ?_; intro b1 W' hb1 hM'; clear hM tk_b1; have hM := hM'; clear hM'))
    go_loopw [4] (fun i wr => ∃ k : Nat, k ≤ n ∧ i = .int .i64 k ∧ ∃ g, Hid (∀ j, j < k * 2 → g j = sps s j) ∧ Mem w [(b1, n * 2, g)] wr) (fun i _ => n - (intOf i).toNat)
    case atStart => exact ⟨0, by omega, rfl, _, Lib.hid (fun j hj => absurd hj (by omega)), hM⟩
    case round =>
      clear hM
      obtain ⟨k, hk, rfl, g, hg, hM⟩ := hrel
      by_cases hlt : k < n
      · go_wp2_with (first | (refine wpList_getL rfl _ _ rfl _ _ rfl _ _ (HL.out.below hM.below) (rowTab _ _ rfl) (k * 2) rfl (by omega) ?_) | (go_at_call 15; refine (toSpot_any _ (fun _ => rfl) _).mono ?_; rintro e W' ⟨rfl, hb'⟩; have hM' := hM.call hb'; clear hM hb'; have hM := hM'; clear hM') | (refine wpList_lay rfl _ _ _ rfl _ _ rfl _ _ rfl hM 0 rfl (by assumption) (rowTab _ _ rfl) (by omega) ?_ ?_; (first | (intro _ _; rfl) | (intro k _; exact h1 _) | (intro k _; simp only [lay, upd]; (repeat' split) <;> first | exact h1 _ | rfl)); intro W' hM'; clear hM; have hM := hM'; clear hM'; simp only [List.set] at hM))
        go_roundw
        case rel => exact ⟨k + 1, by omega, by go_num, _, Lib.hid (fun j hj => by
          by_cases e : k * 2 ≤ j
          · simp only [lay]
            rw [if_pos ⟨e, by omega⟩, show k * 2 + (j - k * 2) = j by omega]
          · simp only [lay]
            rw [if_neg (by omega)]
            exact hg.out j (by omega)), hM⟩
        case measure => simp [intOf]; omega
      · obtain rfl : k = n := by omega
        go_wp2
        go_ret
        exact ⟨b1, rfl, hb1, (hM.ats 0 _ _ _ rfl).congr hg.out, hM.below⟩

set_option maxRecDepth 100000 in
set_option maxHeartbeats 1000000 in
/-- eqSpotS of two lists that hold the same. -/
theorem eqSpotS_same (b b' n c c' : Nat) (s : Nat → Int × Int) (hn : n ≤ maxLen) (w : World) (hA : At w b (n * 2) (sps s)) (hA' : At w b' (n * 2) (sps s)) (hne : b ≠ b') :
    Calls Tryd.prog 21 #[.slice (some ⟨b, 0, none⟩) n c, .slice (some ⟨b', 0, none⟩) n c'] w fun e w' => e = .returned (.bool true) ∧ Below w.heap.size w w' := by
  have hM : Mem w [(b, n * 2, sps s), (b', n * 2, sps s)] w := ((Mem.nil w).old hA (fun i p h => by simp at h)).old hA' (fun i p h => by
    match i, h with
    | 0, h => simp at h; rw [← h]; exact hne
    | _ + 1, h => simp at h)
  unfold maxLen at hn
  clear hA hA'
  go_enter Tryd.func21, Tryd.ntmps21
  go_wp2
  go_loopw [5] (fun i wr => ∃ k : Nat, k ≤ n ∧ i = .int .i64 k ∧ Mem w [(b, n * 2, sps s), (b', n * 2, sps s)] wr) (fun i _ => n - (intOf i).toNat)
  case atStart => exact ⟨0, by omega, rfl, hM⟩
  case round =>
    clear hM
    obtain ⟨k, hk, rfl, hM⟩ := hrel
    by_cases hlt : k < n
    · have l2 : (k : Int) < n := by omega
      have er : arr 2 (fun j => sps s (k * 2 + j)) = arr 2 (sp (s k).1 (s k).2) := arr_congr fun j hj => sps_row s k j hj
      go_wp2
      ((try simp only [Act.put, List.setIfInBounds_toArray, List.set_cons_succ, List.set_cons_zero]); refine wp_region_mem (by kernel_rfl) (by kernel_rfl) hM ?_; clear hM; (repeat (first | go_big_quiet_skip | (go_big_quiet_want; first | (refine quiet_get _ _ rfl _ _ rfl 1 rfl (rowTab _ _ rfl) (by omega) ?_; (simp only [er]); (simp only [Act.put, List.setIfInBounds_toArray, List.set_cons_succ, List.set_cons_zero]); go_big_quiet_on) | (refine quiet_get _ _ rfl _ _ rfl 0 rfl (rowTab _ _ rfl) (by omega) ?_; (simp only [er]); (simp only [Act.put, List.setIfInBounds_toArray, List.set_cons_succ, List.set_cons_zero]); go_big_quiet_on) | (refine quiet_call ?_; apply Exists.intro; apply Exists.intro; apply Exists.intro; refine ⟨fun W => ?_, fun W hM => ?_, ?_⟩; (go_simp; exact ⟨rfl, rfl⟩); (exact eqSpot_same (s k).1 (s k).2 W); (simp only [Act.put, List.setIfInBounds_toArray, List.set_cons_succ, List.set_cons_zero]); go_big_quiet_on) | (refine quiet_val ?_; apply Exists.intro; refine ⟨fun W => ?_, ?_⟩; (go_simp; (try simp only [l2, if_true, Bool.false_eq_true, if_false]); rfl); (simp only [Act.put, List.setIfInBounds_toArray, List.set_cons_succ, List.set_cons_zero]); go_big_quiet_on)))); (with_reducible refine wpQuiet_nil ?_); intro W' hM)
      go_wp2
      go_roundw
      case rel => exact ⟨k + 1, by omega, by go_num, hM⟩
      case measure => simp [intOf]; omega
    · obtain rfl : k = n := by omega
      go_wp2
      go_ret
      exact ⟨rfl, hM.below⟩
end Go.Proofs.YtmopcghkaapaoaaDoor

