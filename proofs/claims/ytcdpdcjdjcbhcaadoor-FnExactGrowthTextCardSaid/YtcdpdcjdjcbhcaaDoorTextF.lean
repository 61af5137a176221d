/-
  spec.Decimal by contract.
-/
import Derived.Test.YtcdpdcjdjcbhcaaDoorTextM
import Derived.Test.YtcdpdcjdjcbhcaaDoorStepPush
import Derived.Test.YtcdpdcjdjcbhcaaDoorReads
import Derived.Test.YtcdpdcjdjcbhcaaDoorSpec1
import Derived.Test.YtcdpdcjdjcbhcaaDoorLit1
import Derived.Test.YtcdpdcjdjcbhcaaDoorStepLit
import Derived.Laws.BytesString
import Derived.Laws.Cells
namespace Go.Proofs.YtcdpdcjdjcbhcaaDoor
open Go Go.RowKit Go.BigFrame

theorem numB_small {n : Int} (h0 : 0 ≤ n) (h : n < 10) : numB n = [UInt8.ofNat (48 + n % 10).toNat] := by
  unfold numB; rw [Lib.decDigits, dif_pos (by omega)]; congr 2; omega
theorem numB_more {n : Int} (h : 10 ≤ n) : numB n = numB (n / 10) ++ [UInt8.ofNat (48 + n % 10).toNat] := by
  unfold numB
  rw [Lib.decDigits, dif_neg (by omega)]
  congr 2
  · congr 1; omega
  · congr 2; omega

/-- A string of the one byte that a block holds. -/
theorem run_str1 {P : Program} {W : World} {src dst e : TypeId} (hs : P.underlying src = some (.slice e)) (he : P.underlying e = some (.int .u8)) (hd : P.underlying dst = some .string) {b n c : Nat} {f : Nat → Value} (hA : At W b n f) (hn : 1 ≤ n) (k : Int) (hf : f 0 = .int .u8 k) :
    (convert src dst (.slice (some ⟨b, 0, none⟩) 1 c)).run P W = .ok (.string (bs [UInt8.ofNat k.toNat])) W := by
  rw [run_convert_bytes_string W src dst e _ _ _ hs he hd]
  have hl : (loadCells ⟨b, 0, none⟩ 1).run P W = .ok ([k].map (Value.int .u8)).toArray W := by
    exact run_loadCells W ⟨b, 0, none⟩ 1 (fun _ => .int .u8 k) (fun j hj => by
      obtain rfl : j = 0 := by omega
      exact (hA.cell (k := 0) (by omega)).trans (congrArg some hf))
  rw [run_bytesToString W _ 1 c [k] hl]
  rfl

section
variable {P : Program} {o : Oper} {a : Act} {w : Base} {L x : Blocks} {K : Act → (World → Prop) → Prop}
theorem step_str1 (src dst e : TypeId) (y : Operand) (ho : o.op = .convert src dst y) (hs : P.underlying src = some (.slice e)) (he : P.underlying e = some (.int .u8)) (hd : P.underlying dst = some .string) (b c : Nat) (hx : a.eval y = .slice (some ⟨b, 0, none⟩) 1 c) (i : Nat) {n : Nat} {f : Nat → Value} (hi : x[i]? = some (b, n, f)) (hn : 1 ≤ n) (k : Int) (hf : f 0 = .int .u8 k)
    (h : K (a.put o.dst (.string (bs [UInt8.ofNat k.toNat]))) (Mem w (x ++ L))) : stepT P (Mem w L) o a (Mem w (x ++ L)) K := by
  have hil : i < x.length := (List.getElem?_eq_some_iff.1 hi).1
  have hi' : (x ++ L)[i]? = some (b, n, f) := by rw [List.getElem?_append_left hil]; exact hi
  intro W hM
  refine .inl ⟨_, _, W, .inl ?_, kept_mem w L x, hM, h⟩
  unfold execOp
  simp only [ho, hx, run_str1 hs he hd (hM.ats i _ _ _ hi') hn k hf, Sem.run_bind, Sem.run_pure, Result.andThen_ok]
end
theorem wpList_str1 {P : Program} {ops : Array Oper} {rest : List Oper} {o : Oper} {a : Act} {W : World} {Q : Exit → Act → World → Prop} (hgd : o.guard = none) (src dst e : TypeId) (y : Operand) (ho : o.op = .convert src dst y) (hs : P.underlying src = some (.slice e)) (he : P.underlying e = some (.int .u8)) (hd : P.underlying dst = some .string) (b c : Nat) (hx : a.eval y = .slice (some ⟨b, 0, none⟩) 1 c) {n : Nat} {f : Nat → Value} (hA : At W b n f) (hn : 1 ≤ n) (k : Int) (hf : f 0 = .int .u8 k)
    (h : wpList P ops Q rest (a.put o.dst (.string (bs [UInt8.ofNat k.toNat]))) W) : wpList P ops Q (o :: rest) a W := by
  refine wpList_plain hgd fun K hK => ?_
  unfold Oper.wp execOp
  simp only [ho, hx, run_str1 hs he hd hA hn k hf, Sem.run_bind, Sem.run_pure, Result.andThen_ok]
  exact hK _ _ h
theorem cat_op {P : Program} {o : Oper} {a : Act} {t t' : TypeId} (x y : Operand) (ho : o.op = .binOp .add t x y t') (u v : List UInt8) (hx : a.eval x = .string (bs u)) (hy : a.eval y = .string (bs v)) (hb : u.length + v.length ≤ 100000000) (W : World) : (execOp a.eval o).run P W = .ok (.value (.string (bs (u ++ v)))) W := by
  unfold execOp
  have hg : (eqGuard .add t x y (.string (bs u)) (.string (bs v))).run P W = .ok () W := rfl
  simp only [ho, hx, hy, binOp, hg, cat_run u v hb W, Sem.run_bind, Sem.run_pure, Result.andThen_ok]
theorem wpList_cat {P : Program} {ops : Array Oper} {rest : List Oper} {o : Oper} {a : Act} {W : World} {Q : Exit → Act → World → Prop} (hgd : o.guard = none) {t t' : TypeId} (x y : Operand) (ho : o.op = .binOp .add t x y t') (u v : List UInt8) (hx : a.eval x = .string (bs u)) (hy : a.eval y = .string (bs v)) (hb : u.length + v.length ≤ 100000000)
    (h : wpList P ops Q rest (a.put o.dst (.string (bs (u ++ v)))) W) : wpList P ops Q (o :: rest) a W := by
  refine wpList_plain hgd fun K hK => ?_
  unfold Oper.wp
  rw [cat_op x y ho u v hx hy hb W]
  exact hK _ _ h
theorem infoU8 : (Tryd.prog.info? 5).map (fun i => (i.size, i.zero)) = some (1, some (.int .u8 0)) := by kernel_rfl
theorem bytes_under : Tryd.prog.underlying 120 = some (.slice 5) := Tryd.underlying120

set_option maxRecDepth 100000 in
set_option maxHeartbeats 1000000 in
theorem Decimal_one (n : Int) (h0 : 0 ≤ n) (h1 : n < 10) (w : World) :
    Calls Tryd.prog 94 #[.int .i64 n] w fun e w' => e = .returned (.string (bs (numB n))) ∧ Below w.heap.size w w' := by
  have hM := Mem.nil w
  obtain ⟨r, hr⟩ : ∃ r, n % 10 = r := ⟨_, rfl⟩
  have hr0 : 0 ≤ r ∧ r < 10 := by omega
  have hv := numB_small h0 h1
  rw [hr] at hv
  rw [hv]
  have c1 : IntKind.i64.wrap (48 + r) = 48 + r := IntWalk.i64_in _ (by omega)
  have c2 : IntKind.u8.wrap (48 + r) = 48 + r := by show (48 + r) % 256 = _; omega
  have d1 : decide (n < 10) = true := decide_eq_true h1
  clear hv
  have tk_l1 : True := trivial
  go_enter Tryd.func94, Tryd.ntmps94
  go_wp2_with (first | (have _t := tk_l1; refine wpList_lit1 rfl _ _ _ rfl (.int .u8 (48 + r)) rfl rfl _ bytes_under infoU8 hM ?_; intro bl W' hbl hM'; clear hM tk_l1; have hM := hM'; clear hM') | (refine wpList_str1 rfl _ _ _ _ rfl bytes_under Tryd.underlying5 Tryd.underlying9 _ _ rfl (hM.ats 0 _ _ _ rfl) (by omega) (48 + r) rfl ?_))
  go_ret
  exact ⟨rfl, hM.below⟩

set_option maxRecDepth 100000 in
set_option maxHeartbeats 2000000 in
theorem Decimal_more (n : Int) (h1 : 10 ≤ n) (h2 : n ≤ 9000000000) (ih : ∀ w : World, Calls Tryd.prog 94 #[.int .i64 (n / 10)] w fun e w' => e = .returned (.string (bs (numB (n / 10)))) ∧ Below w.heap.size w w') (w : World) :
    Calls Tryd.prog 94 #[.int .i64 n] w fun e w' => e = .returned (.string (bs (numB n))) ∧ Below w.heap.size w w' := by
  have hM := Mem.nil w
  obtain ⟨r, hr⟩ : ∃ r, n % 10 = r := ⟨_, rfl⟩
  obtain ⟨q, hq⟩ : ∃ q, n / 10 = q := ⟨_, rfl⟩
  have hr0 : 0 ≤ r ∧ r < 10 := by omega
  have hl := numB_len (n := q) (by omega)
  have hv := numB_more h1
  rw [hr, hq] at hv
  rw [hv]
  rw [hq] at ih
  have IH := Lib.hid ih
  have eq : n.tdiv 10 = q := by rw [Int.tdiv_eq_ediv_of_nonneg (by omega)]; exact hq
  have er : n.tmod 10 = r := by rw [Int.tmod_eq_emod_of_nonneg (by omega)]; exact hr
  have c0 : IntKind.i64.wrap q = q := IntWalk.i64_in _ (by omega)
  have c1 : IntKind.i64.wrap (48 + r) = 48 + r := IntWalk.i64_in _ (by omega)
  have c2 : IntKind.u8.wrap (48 + r) = 48 + r := by show (48 + r) % 256 = _; omega
  have d1 : decide (n < 10) = false := decide_eq_false (by omega)
  obtain ⟨u, hu⟩ : ∃ u, numB q = u := ⟨_, rfl⟩
  rw [hu] at hl IH ⊢
  have hbnd : u.length + [UInt8.ofNat (48 + r).toNat].length ≤ 100000000 := by simp; omega
  clear hv ih hu
  go_enter Tryd.func94, Tryd.ntmps94
  go_wp2
  ((try simp only [Act.put, List.setIfInBounds_toArray, List.set_cons_succ, List.set_cons_zero]); refine region_readsX [0, 1, 3, 4, 5, 6] #[true, true, false, true, true, true, true, false, false, false, false] 5 [] (by kernel_rfl) (by kernel_rfl) (by kernel_rfl) hM ?_; clear hM; (repeat (refine qs_plain rfl rfl ?_; first | (refine b_val ?_; apply Exists.intro; refine ⟨fun W => ?_, ?_⟩; (go_simp; (try simp only [eq, er, c0, c1, c2, if_true]); rfl); (simp only [Act.put, List.setIfInBounds_toArray, List.set_cons_succ, List.set_cons_zero])))); (with_reducible refine qs_nil ?_))
  (refine mix_two (i := 2) (j := 7) (by kernel_rfl) rfl rfl (by kernel_rfl) (by kernel_rfl) rfl rfl ?_ ?_)
  · (refine step_call ?_; apply Exists.intro; apply Exists.intro; apply Exists.intro; refine ⟨fun W => ?_, fun W hM => ?_, ?_⟩; (go_simp; exact ⟨rfl, rfl⟩); (exact IH.out W); (simp only [Act.put, List.setIfInBounds_toArray, List.set_cons_succ, List.set_cons_zero]))
    (refine mix_one (i := 7) (by kernel_rfl) rfl (by kernel_rfl) rfl ?_)
    (refine step_lit1 _ _ _ rfl (.int .u8 (48 + r)) rfl rfl _ bytes_under infoU8 ?_; intro bl hbl; (simp only [Act.put, List.setIfInBounds_toArray, List.set_cons_succ, List.set_cons_zero]))
    (refine mix_one (i := 8) (by kernel_rfl) rfl (by kernel_rfl) rfl ?_)
    (refine step_str1 _ _ _ _ rfl bytes_under Tryd.underlying5 Tryd.underlying9 _ _ rfl 0 rfl (by omega) (48 + r) rfl ?_; (simp only [Act.put, List.setIfInBounds_toArray, List.set_cons_succ, List.set_cons_zero]))
    (refine mix_one (i := 9) (by kernel_rfl) rfl (by kernel_rfl) rfl ?_)
    (refine step_val ⟨_, fun W => cat_op _ _ rfl u [UInt8.ofNat (48 + r).toNat] rfl rfl hbnd W, ?_⟩; (simp only [Act.put, List.setIfInBounds_toArray, List.set_cons_succ, List.set_cons_zero]))
    (refine mix_one (i := 10) (by kernel_rfl) rfl (by kernel_rfl) rfl ?_)
    (refine step_val ?_; apply Exists.intro; refine ⟨fun W => ?_, ?_⟩; (go_simp; rfl); (simp only [Act.put, List.setIfInBounds_toArray, List.set_cons_succ, List.set_cons_zero]))
    (refine mix_end (by kernel_rfl) ?_; intro W' hM; simp only [List.cons_append, List.nil_append] at hM)
    go_wp2
    go_ret
    exact ⟨rfl, hM.below⟩
  · (refine step_lit1 _ _ _ rfl (.int .u8 (48 + r)) rfl rfl _ bytes_under infoU8 ?_; intro bl hbl; (simp only [Act.put, List.setIfInBounds_toArray, List.set_cons_succ, List.set_cons_zero]))
    (refine mix_two (i := 2) (j := 8) (by kernel_rfl) rfl rfl (by kernel_rfl) (by kernel_rfl) rfl rfl ?_ ?_)
    · (refine step_call ?_; apply Exists.intro; apply Exists.intro; apply Exists.intro; refine ⟨fun W => ?_, fun W hM => ?_, ?_⟩; (go_simp; exact ⟨rfl, rfl⟩); (exact IH.out W); (simp only [Act.put, List.setIfInBounds_toArray, List.set_cons_succ, List.set_cons_zero]))
      (refine mix_one (i := 8) (by kernel_rfl) rfl (by kernel_rfl) rfl ?_)
      (refine step_str1 _ _ _ _ rfl bytes_under Tryd.underlying5 Tryd.underlying9 _ _ rfl 0 rfl (by omega) (48 + r) rfl ?_; (simp only [Act.put, List.setIfInBounds_toArray, List.set_cons_succ, List.set_cons_zero]))
      (refine mix_one (i := 9) (by kernel_rfl) rfl (by kernel_rfl) rfl ?_)
      (refine step_val ⟨_, fun W => cat_op _ _ rfl u [UInt8.ofNat (48 + r).toNat] rfl rfl hbnd W, ?_⟩; (simp only [Act.put, List.setIfInBounds_toArray, List.set_cons_succ, List.set_cons_zero]))
      (refine mix_one (i := 10) (by kernel_rfl) rfl (by kernel_rfl) rfl ?_)
      (refine step_val ?_; apply Exists.intro; refine ⟨fun W => ?_, ?_⟩; (go_simp; rfl); (simp only [Act.put, List.setIfInBounds_toArray, List.set_cons_succ, List.set_cons_zero]))
      (refine mix_end (by kernel_rfl) ?_; intro W' hM; simp only [List.cons_append, List.nil_append] at hM)
      go_wp2
      go_ret
      exact ⟨rfl, hM.below⟩
    · (refine step_str1 _ _ _ _ rfl bytes_under Tryd.underlying5 Tryd.underlying9 _ _ rfl 0 rfl (by omega) (48 + r) rfl ?_; (simp only [Act.put, List.setIfInBounds_toArray, List.set_cons_succ, List.set_cons_zero]))
      (refine mix_one (i := 2) (by kernel_rfl) rfl (by kernel_rfl) rfl ?_)
      (refine step_call ?_; apply Exists.intro; apply Exists.intro; apply Exists.intro; refine ⟨fun W => ?_, fun W hM => ?_, ?_⟩; (go_simp; exact ⟨rfl, rfl⟩); (exact IH.out W); (simp only [Act.put, List.setIfInBounds_toArray, List.set_cons_succ, List.set_cons_zero]))
      (refine mix_one (i := 9) (by kernel_rfl) rfl (by kernel_rfl) rfl ?_)
      (refine step_val ⟨_, fun W => cat_op _ _ rfl u [UInt8.ofNat (48 + r).toNat] rfl rfl hbnd W, ?_⟩; (simp only [Act.put, List.setIfInBounds_toArray, List.set_cons_succ, List.set_cons_zero]))
      (refine mix_one (i := 10) (by kernel_rfl) rfl (by kernel_rfl) rfl ?_)
      (refine step_val ?_; apply Exists.intro; refine ⟨fun W => ?_, ?_⟩; (go_simp; rfl); (simp only [Act.put, List.setIfInBounds_toArray, List.set_cons_succ, List.set_cons_zero]))
      (refine mix_end (by kernel_rfl) ?_; intro W' hM; simp only [List.cons_append, List.nil_append] at hM)
      go_wp2
      go_ret
      exact ⟨rfl, hM.below⟩

theorem Decimal_any (n : Int) (h0 : 0 ≤ n) (h1 : n ≤ 9000000000) (w : World) : Calls Tryd.prog 94 #[.int .i64 n] w fun e w' => e = .returned (.string (bs (numB n))) ∧ Below w.heap.size w w' := by
  obtain ⟨m, rfl⟩ : ∃ m : Nat, n = m := ⟨n.toNat, by omega⟩
  clear h0
  induction m using Nat.strongRecOn generalizing w with
  | _ m ih =>
    by_cases h : (m : Int) < 10
    · exact Decimal_one _ (by omega) h w
    · refine Decimal_more _ (by omega) h1 (fun w => ?_) w
      have := ih (m / 10) (by omega) w (by omega)
      rwa [show ((m / 10 : Nat) : Int) = (m : Int) / 10 by omega] at this
end Go.Proofs.YtcdpdcjdjcbhcaaDoor
