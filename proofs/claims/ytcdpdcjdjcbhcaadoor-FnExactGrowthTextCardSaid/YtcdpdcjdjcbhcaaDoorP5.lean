/-
  Several texts in one: TextF, GrowOk, GrowthTS, Words, Index, Equal, Results, Grow.
-/
import Derived.Test.YtcdpdcjdjcbhcaaDoorP2
import Derived.Test.YtcdpdcjdjcbhcaaDoorP4
import Derived.Test.YtcdpdcjdjcbhcaaDoorP3
import Derived.Laws.BytesString
import Derived.Laws.Cells
import Derived.Lib.Hide
import Derived.Test.YtcdpdcjdjcbhcaaDoorP1
import Derived.ChangeKeysEq
import Derived.Laws.StructEq
import Derived.Laws.ResultCell
/-
  spec.Decimal by contract.
-/
namespace Go.Proofs.YtcdpdcjdjcbhcaaDoor
open Go Go.RowKit Go.BigFrame

theorem numB_small {n : Int} (h0 : 0 ≤ n) (h : n < 10) : numB n = [UInt8.ofNat (48 + n % 10).toNat] := by
  unfold numB; rw [Lib.decDigits, dif_pos (by omega)]; congr 2; omega
theorem numB_more {n : Int} (h : 10 ≤ n) : numB n = numB (n / 10) ++ [UInt8.ofNat (48 + n % 10).toNat] := by
  unfold numB
  rw [Lib.decDigits, dif_neg (by omega)]
  congr 2
  · congr 1; omega
  · congr 2; omega

/-- A string of the one byte that a block holds. -/
theorem run_str1 {P : Program} {W : World} {src dst e : TypeId} (hs : P.underlying src = some (.slice e)) (he : P.underlying e = some (.int .u8)) (hd : P.underlying dst = some .string) {b n c : Nat} {f : Nat → Value} (hA : At W b n f) (hn : 1 ≤ n) (k : Int) (hf : f 0 = .int .u8 k) :
    (convert src dst (.slice (some ⟨b, 0, none⟩) 1 c)).run P W = .ok (.string (bs [UInt8.ofNat k.toNat])) W := by
  rw [run_convert_bytes_string W src dst e _ _ _ hs he hd]
  have hl : (loadCells ⟨b, 0, none⟩ 1).run P W = .ok ([k].map (Value.int .u8)).toArray W := by
    exact run_loadCells W ⟨b, 0, none⟩ 1 (fun _ => .int .u8 k) (fun j hj => by
      obtain rfl : j = 0 := by omega
      exact (hA.cell (k := 0) (by omega)).trans (congrArg some hf))
  rw [run_bytesToString W _ 1 c [k] hl]
  rfl

section
variable {P : Program} {o : Oper} {a : Act} {w : Base} {L x : Blocks} {K : Act → (World → Prop) → Prop}
theorem step_str1 (src dst e : TypeId) (y : Operand) (ho : o.op = .convert src dst y) (hs : P.underlying src = some (.slice e)) (he : P.underlying e = some (.int .u8)) (hd : P.underlying dst = some .string) (b c : Nat) (hx : a.eval y = .slice (some ⟨b, 0, none⟩) 1 c) (i : Nat) {n : Nat} {f : Nat → Value} (hi : x[i]? = some (b, n, f)) (hn : 1 ≤ n) (k : Int) (hf : f 0 = .int .u8 k)
    (h : K (a.put o.dst (.string (bs [UInt8.ofNat k.toNat]))) (Mem w (x ++ L))) : stepT P (Mem w L) o a (Mem w (x ++ L)) K := by
  have hil : i < x.length := (List.getElem?_eq_some_iff.1 hi).1
  have hi' : (x ++ L)[i]? = some (b, n, f) := by rw [List.getElem?_append_left hil]; exact hi
  intro W hM
  refine .inl ⟨_, _, W, .inl ?_, kept_mem w L x, hM, h⟩
  unfold execOp
  simp only [ho, hx, run_str1 hs he hd (hM.ats i _ _ _ hi') hn k hf, Sem.run_bind, Sem.run_pure, Result.andThen_ok]
end
theorem wpList_str1 {P : Program} {ops : Array Oper} {rest : List Oper} {o : Oper} {a : Act} {W : World} {Q : Exit → Act → World → Prop} (hgd : o.guard = none) (src dst e : TypeId) (y : Operand) (ho : o.op = .convert src dst y) (hs : P.underlying src = some (.slice e)) (he : P.underlying e = some (.int .u8)) (hd : P.underlying dst = some .string) (b c : Nat) (hx : a.eval y = .slice (some ⟨b, 0, none⟩) 1 c) {n : Nat} {f : Nat → Value} (hA : At W b n f) (hn : 1 ≤ n) (k : Int) (hf : f 0 = .int .u8 k)
    (h : wpList P ops Q rest (a.put o.dst (.string (bs [UInt8.ofNat k.toNat]))) W) : wpList P ops Q (o :: rest) a W := by
  refine wpList_plain hgd fun K hK => ?_
  unfold Oper.wp execOp
  simp only [ho, hx, run_str1 hs he hd hA hn k hf, Sem.run_bind, Sem.run_pure, Result.andThen_ok]
  exact hK _ _ h
theorem cat_op {P : Program} {o : Oper} {a : Act} {t t' : TypeId} (x y : Operand) (ho : o.op = .binOp .add t x y t') (u v : List UInt8) (hx : a.eval x = .string (bs u)) (hy : a.eval y = .string (bs v)) (hb : u.length + v.length ≤ 100000000) (W : World) : (execOp a.eval o).run P W = .ok (.value (.string (bs (u ++ v)))) W := by
  unfold execOp
  have hg : (eqGuard .add t x y (.string (bs u)) (.string (bs v))).run P W = .ok () W := rfl
  simp only [ho, hx, hy, binOp, hg, cat_run u v hb W, Sem.run_bind, Sem.run_pure, Result.andThen_ok]
theorem wpList_cat {P : Program} {ops : Array Oper} {rest : List Oper} {o : Oper} {a : Act} {W : World} {Q : Exit → Act → World → Prop} (hgd : o.guard = none) {t t' : TypeId} (x y : Operand) (ho : o.op = .binOp .add t x y t') (u v : List UInt8) (hx : a.eval x = .string (bs u)) (hy : a.eval y = .string (bs v)) (hb : u.length + v.length ≤ 100000000)
    (h : wpList P ops Q rest (a.put o.dst (.string (bs (u ++ v)))) W) : wpList P ops Q (o :: rest) a W := by
  refine wpList_plain hgd fun K hK => ?_
  unfold Oper.wp
  rw [cat_op x y ho u v hx hy hb W]
  exact hK _ _ h
theorem infoU8 : (Tryd.prog.info? 5).map (fun i => (i.size, i.zero)) = some (1, some (.int .u8 0)) := by kernel_rfl
theorem bytes_under : Tryd.prog.underlying 120 = some (.slice 5) := Tryd.underlying120

set_option maxRecDepth 100000 in
set_option maxHeartbeats 1000000 in
theorem Decimal_one (n : Int) (h0 : 0 ≤ n) (h1 : n < 10) (w : World) :
    Calls Tryd.prog 94 #[.int .i64 n] w fun e w' => e = .returned (.string (bs (numB n))) ∧ Below w.heap.size w w' := by
  have hM := Mem.nil w
  obtain ⟨r, hr⟩ : ∃ r, n % 10 = r := ⟨_, rfl⟩
  have hr0 : 0 ≤ r ∧ r < 10 := by omega
  have hv := numB_small h0 h1
  rw [hr] at hv
  rw [hv]
  have c1 : IntKind.i64.wrap (48 + r) = 48 + r := IntWalk.i64_in _ (by omega)
  have c2 : IntKind.u8.wrap (48 + r) = 48 + r := by show (48 + r) % 256 = _; omega
  have d1 : decide (n < 10) = true := decide_eq_true h1
  clear hv
  have tk_l1 : True := trivial
  go_enter Tryd.func94, Tryd.ntmps94
  go_wp2_with (first | (have _t := tk_l1; refine wpList_lit1 rfl _ _ _ rfl (.int .u8 (48 + r)) rfl rfl _ bytes_under infoU8 hM ?_; intro bl W' hbl hM'; clear hM tk_l1; have hM := hM'; clear hM') | (refine wpList_str1 rfl _ _ _ _ rfl bytes_under Tryd.underlying5 Tryd.underlying9 _ _ rfl (hM.ats 0 _ _ _ rfl) (by omega) (48 + r) rfl ?_))
  go_ret
  exact ⟨rfl, hM.below⟩

set_option maxRecDepth 100000 in
set_option maxHeartbeats 2000000 in
theorem Decimal_more (n : Int) (h1 : 10 ≤ n) (h2 : n ≤ 9000000000) (ih : ∀ w : World, Calls Tryd.prog 94 #[.int .i64 (n / 10)] w fun e w' => e = .returned (.string (bs (numB (n / 10)))) ∧ Below w.heap.size w w') (w : World) :
    Calls Tryd.prog 94 #[.int .i64 n] w fun e w' => e = .returned (.string (bs (numB n))) ∧ Below w.heap.size w w' := by
  have hM := Mem.nil w
  obtain ⟨r, hr⟩ : ∃ r, n % 10 = r := ⟨_, rfl⟩
  obtain ⟨q, hq⟩ : ∃ q, n / 10 = q := ⟨_, rfl⟩
  have hr0 : 0 ≤ r ∧ r < 10 := by omega
  have hl := numB_len (n := q) (by omega)
  have hv := numB_more h1
  rw [hr, hq] at hv
  rw [hv]
  rw [hq] at ih
  have IH := Lib.hid ih
  have eq : n.tdiv 10 = q := by rw [Int.tdiv_eq_ediv_of_nonneg (by omega)]; exact hq
  have er : n.tmod 10 = r := by rw [Int.tmod_eq_emod_of_nonneg (by omega)]; exact hr
  have c0 : IntKind.i64.wrap q = q := IntWalk.i64_in _ (by omega)
  have c1 : IntKind.i64.wrap (48 + r) = 48 + r := IntWalk.i64_in _ (by omega)
  have c2 : IntKind.u8.wrap (48 + r) = 48 + r := by show (48 + r) % 256 = _; omega
  have d1 : decide (n < 10) = false := decide_eq_false (by omega)
  obtain ⟨u, hu⟩ : ∃ u, numB q = u := ⟨_, rfl⟩
  rw [hu] at hl IH ⊢
  have hbnd : u.length + [UInt8.ofNat (48 + r).toNat].length ≤ 100000000 := by simp; omega
  clear hv ih hu
  go_enter Tryd.func94, Tryd.ntmps94
  go_wp2
  ((try simp only [Act.put, List.setIfInBounds_toArray, List.set_cons_succ, List.set_cons_zero]); refine region_readsX [0, 1, 3, 4, 5, 6] #[true, true, false, true, true, true, true, false, false, false, false] 5 [] (by kernel_rfl) (by kernel_rfl) (by kernel_rfl) hM ?_; clear hM; (repeat (refine qs_plain rfl rfl ?_; first | (refine b_val ?_; apply Exists.intro; refine ⟨fun W => ?_, ?_⟩; (go_simp; (try simp only [eq, er, c0, c1, c2, if_true]); rfl); (simp only [Act.put, List.setIfInBounds_toArray, List.set_cons_succ, List.set_cons_zero])))); (with_reducible refine qs_nil ?_))
  (refine mix_two (i := 2) (j := 7) (by kernel_rfl) rfl rfl (by kernel_rfl) (by kernel_rfl) rfl rfl ?_ ?_)
  · (refine step_call ?_; apply Exists.intro; apply Exists.intro; apply Exists.intro; refine ⟨fun W => ?_, fun W hM => ?_, ?_⟩; (go_simp; exact ⟨rfl, rfl⟩); (exact IH.out W); (simp only [Act.put, List.setIfInBounds_toArray, List.set_cons_succ, List.set_cons_zero]))
    (refine mix_one (i := 7) (by kernel_rfl) rfl (by kernel_rfl) rfl ?_)
    (refine step_lit1 _ _ _ rfl (.int .u8 (48 + r)) rfl rfl _ bytes_under infoU8 ?_; intro bl hbl; (simp only [Act.put, List.setIfInBounds_toArray, List.set_cons_succ, List.set_cons_zero]))
    (refine mix_one (i := 8) (by kernel_rfl) rfl (by kernel_rfl) rfl ?_)
    (refine step_str1 _ _ _ _ rfl bytes_under Tryd.underlying5 Tryd.underlying9 _ _ rfl 0 rfl (by omega) (48 + r) rfl ?_; (simp only [Act.put, List.setIfInBounds_toArray, List.set_cons_succ, List.set_cons_zero]))
    (refine mix_one (i := 9) (by kernel_rfl) rfl (by kernel_rfl) rfl ?_)
    (refine step_val ⟨_, fun W => cat_op _ _ rfl u [UInt8.ofNat (48 + r).toNat] rfl rfl hbnd W, ?_⟩; (simp only [Act.put, List.setIfInBounds_toArray, List.set_cons_succ, List.set_cons_zero]))
    (refine mix_one (i := 10) (by kernel_rfl) rfl (by kernel_rfl) rfl ?_)
    (refine step_val ?_; apply Exists.intro; refine ⟨fun W => ?_, ?_⟩; (go_simp; rfl); (simp only [Act.put, List.setIfInBounds_toArray, List.set_cons_succ, List.set_cons_zero]))
    (refine mix_end (by kernel_rfl) ?_; intro W' hM; simp only [List.cons_append, List.nil_append] at hM)
    go_wp2
    go_ret
    exact ⟨rfl, hM.below⟩
  · (refine step_lit1 _ _ _ rfl (.int .u8 (48 + r)) rfl rfl _ bytes_under infoU8 ?_; intro bl hbl; (simp only [Act.put, List.setIfInBounds_toArray, List.set_cons_succ, List.set_cons_zero]))
    (refine mix_two (i := 2) (j := 8) (by kernel_rfl) rfl rfl (by kernel_rfl) (by kernel_rfl) rfl rfl ?_ ?_)
    · (refine step_call ?_; apply Exists.intro; apply Exists.intro; apply Exists.intro; refine ⟨fun W => ?_, fun W hM => ?_, ?_⟩; (go_simp; exact ⟨rfl, rfl⟩); (exact IH.out W); (simp only [Act.put, List.setIfInBounds_toArray, List.set_cons_succ, List.set_cons_zero]))
      (refine mix_one (i := 8) (by kernel_rfl) rfl (by kernel_rfl) rfl ?_)
      (refine step_str1 _ _ _ _ rfl bytes_under Tryd.underlying5 Tryd.underlying9 _ _ rfl 0 rfl (by omega) (48 + r) rfl ?_; (simp only [Act.put, List.setIfInBounds_toArray, List.set_cons_succ, List.set_cons_zero]))
      (refine mix_one (i := 9) (by kernel_rfl) rfl (by kernel_rfl) rfl ?_)
      (refine step_val ⟨_, fun W => cat_op _ _ rfl u [UInt8.ofNat (48 + r).toNat] rfl rfl hbnd W, ?_⟩; (simp only [Act.put, List.setIfInBounds_toArray, List.set_cons_succ, List.set_cons_zero]))
      (refine mix_one (i := 10) (by kernel_rfl) rfl (by kernel_rfl) rfl ?_)
      (refine step_val ?_; apply Exists.intro; refine ⟨fun W => ?_, ?_⟩; (go_simp; rfl); (simp only [Act.put, List.setIfInBounds_toArray, List.set_cons_succ, List.set_cons_zero]))
      (refine mix_end (by kernel_rfl) ?_; intro W' hM; simp only [List.cons_append, List.nil_append] at hM)
      go_wp2
      go_ret
      exact ⟨rfl, hM.below⟩
    · (refine step_str1 _ _ _ _ rfl bytes_under Tryd.underlying5 Tryd.underlying9 _ _ rfl 0 rfl (by omega) (48 + r) rfl ?_; (simp only [Act.put, List.setIfInBounds_toArray, List.set_cons_succ, List.set_cons_zero]))
      (refine mix_one (i := 2) (by kernel_rfl) rfl (by kernel_rfl) rfl ?_)
      (refine step_call ?_; apply Exists.intro; apply Exists.intro; apply Exists.intro; refine ⟨fun W => ?_, fun W hM => ?_, ?_⟩; (go_simp; exact ⟨rfl, rfl⟩); (exact IH.out W); (simp only [Act.put, List.setIfInBounds_toArray, List.set_cons_succ, List.set_cons_zero]))
      (refine mix_one (i := 9) (by kernel_rfl) rfl (by kernel_rfl) rfl ?_)
      (refine step_val ⟨_, fun W => cat_op _ _ rfl u [UInt8.ofNat (48 + r).toNat] rfl rfl hbnd W, ?_⟩; (simp only [Act.put, List.setIfInBounds_toArray, List.set_cons_succ, List.set_cons_zero]))
      (refine mix_one (i := 10) (by kernel_rfl) rfl (by kernel_rfl) rfl ?_)
      (refine step_val ?_; apply Exists.intro; refine ⟨fun W => ?_, ?_⟩; (go_simp; rfl); (simp only [Act.put, List.setIfInBounds_toArray, List.set_cons_succ, List.set_cons_zero]))
      (refine mix_end (by kernel_rfl) ?_; intro W' hM; simp only [List.cons_append, List.nil_append] at hM)
      go_wp2
      go_ret
      exact ⟨rfl, hM.below⟩

theorem Decimal_any (n : Int) (h0 : 0 ≤ n) (h1 : n ≤ 9000000000) (w : World) : Calls Tryd.prog 94 #[.int .i64 n] w fun e w' => e = .returned (.string (bs (numB n))) ∧ Below w.heap.size w w' := by
  obtain ⟨m, rfl⟩ : ∃ m : Nat, n = m := ⟨n.toNat, by omega⟩
  clear h0
  induction m using Nat.strongRecOn generalizing w with
  | _ m ih =>
    by_cases h : (m : Int) < 10
    · exact Decimal_one _ (by omega) h w
    · refine Decimal_more _ (by omega) h1 (fun w => ?_) w
      have := ih (m / 10) (by omega) w (by omega)
      rwa [show ((m / 10 : Nat) : Int) = (m : Int) / 10 by omega] at this
end Go.Proofs.YtcdpdcjdjcbhcaaDoor

/-
  Which growths are valid; spec.l04Ok by contract.
-/
namespace Go.Proofs.YtcdpdcjdjcbhcaaDoor
open Go Go.RowKit Go.BigFrame

/-- Is a growth valid? -/
def growB (h : Nat → Int) : Bool := (List.range 11).all (fun k => inB 0 100 (h k)) && inB 0 1000 (h 11)
theorem growB_no {h : Nat → Int} {k : Nat} (hk : k < 11) (e : inB 0 100 (h k) = false) : growB h = false := by
  have : (List.range 11).all (fun k => inB 0 100 (h k)) = false := by rw [List.all_eq_false]; exact ⟨k, by simpa using hk, by rw [e]; decide⟩
  rw [growB, this]; rfl
theorem growB_tab {h : Nat → Int} (hall : ∀ k, k < 11 → inB 0 100 (h k) = true) : growB h = inB 0 1000 (h 11) := by
  have : (List.range 11).all (fun k => inB 0 100 (h k)) = true := by rw [List.all_eq_true]; intro k hk; exact hall k (by simpa using hk)
  rw [growB, this]; rfl
theorem growB_true {h : Nat → Int} (e : growB h = true) : (∀ k, k < 11 → 0 ≤ h k ∧ h k ≤ 100) ∧ 0 ≤ h 11 ∧ h 11 ≤ 1000 := by
  unfold growB at e
  rw [Bool.and_eq_true, List.all_eq_true] at e
  exact ⟨fun k hk => inB_true (e.1 k (List.mem_range.2 hk)), inB_true e.2⟩
theorem growB_iff {h : Nat → Int} : growB h = true ↔ (∀ k, k < 11 → 0 ≤ h k ∧ h k ≤ 100) ∧ 0 ≤ h 11 ∧ h 11 ≤ 1000 :=
  ⟨growB_true, fun e => by rw [growB_tab (fun k hk => inB_yes (e.1 k hk))]; exact inB_yes e.2⟩

set_option maxRecDepth 100000 in
set_option maxHeartbeats 1000000 in
theorem l04Ok_any (h : Nat → Int) (hF : FitsW h) (bp : Nat) (w : World) (hA : At w bp 12 (gro h)) :
    Calls Tryd.prog 48 #[.pointer (some ⟨bp, 0, none⟩)] w fun e w' => e = .returned (.bool (growB h)) ∧ Below w.heap.size w w' := by
  have hM : Mem w [(bp, 12, gro h)] w := (Mem.nil w).old hA (fun i p h => by simp at h)
  have HF := Lib.hid hF
  clear hF hA
  go_enter Tryd.func48, Tryd.ntmps48
  go_wp2
  go_loopw [3] (fun i wr => ∃ k : Nat, k ≤ 11 ∧ i = .int .i64 k ∧ Hid (∀ j, j < k → inB 0 100 (h j) = true) ∧ Mem w [(bp, 12, gro h)] wr) (fun i _ => 11 - (intOf i).toNat)
  case atStart => exact ⟨0, by omega, rfl, Lib.hid (fun j hj => absurd hj (by omega)), hM⟩
  case round =>
    clear hM
    obtain ⟨k, hk, rfl, hall, hM⟩ := hrel
    by_cases hlt : k < 11
    · have lk : (k : Int) < 11 := by omega
      have e0 : gro h (0 + k) = .int .i8 (h k) := by rw [Nat.zero_add]; exact gro_i8 h hlt
      have e0' : gro h k = .int .i8 (h k) := gro_i8 h hlt
      have bk := HF.out.tab k hlt
      have c0 : IntKind.i64.wrap (h k) = h k := IntWalk.i64_in _ (by omega)
      cases hB : inB 0 100 (h k)
      · have HB := Lib.hid hB
        clear hB bk
        go_wp2_with (first | (refine wpList_get1 rfl _ _ rfl _ _ rfl hM 0 rfl (cellTab _ rfl) (by omega) _ (by first | exact e0 | exact e0') ?_) | (go_at_call 93; (with_reducible refine (l00In_any _ _ _ _).mono ?_); rintro e W' ⟨rfl, hb'⟩; rw [HB.out]; have hM' := hM.call hb'; clear hM hb'; have hM := hM'; clear hM'))
        go_ret
        exact ⟨ret_bool (growB_no hlt HB.out).symm, hM.below⟩
      · have HB := Lib.hid hB
        clear hB bk
        go_wp2_with (first | (refine wpList_get1 rfl _ _ rfl _ _ rfl hM 0 rfl (cellTab _ rfl) (by omega) _ (by first | exact e0 | exact e0') ?_) | (go_at_call 93; (with_reducible refine (l00In_any _ _ _ _).mono ?_); rintro e W' ⟨rfl, hb'⟩; rw [HB.out]; have hM' := hM.call hb'; clear hM hb'; have hM := hM'; clear hM'))
        go_roundw
        case rel => exact ⟨k + 1, by omega, by go_num, Lib.hid (fun j hj => by
          by_cases e : j = k
          · rw [e]; exact HB.out
          · exact hall.out j (by omega)), hM⟩
        case measure => simp [intOf]; omega
    · obtain rfl : k = 11 := by omega
      have Hr := Lib.hid (growB_tab hall.out)
      have bl := HF.out.lim
      have c0 : IntKind.i64.wrap (h 11) = h 11 := IntWalk.i64_in _ (by omega)
      have e1 := gro_lim h
      clear bl
      go_wp2_with (first | (refine wpList_get1 rfl _ _ rfl _ _ rfl hM 0 rfl (cellTab _ rfl) (by omega) _ e1 ?_) | (go_at_call 98; (with_reducible refine (l01Grass_any _ _).mono ?_); rintro e W' ⟨rfl, hb'⟩; have hM' := hM.call hb'; clear hM hb'; have hM := hM'; clear hM'))
      go_ret
      exact ⟨ret_bool Hr.out.symm, hM.below⟩
end Go.Proofs.YtcdpdcjdjcbhcaaDoor

/-
  The text of a growth; spec.l04Text, GrowthText by contracts.
-/
namespace Go.Proofs.YtcdpdcjdjcbhcaaDoor
open Go Go.RowKit Go.BigFrame

def growW (h : Nat → Int) (k : Nat) : List UInt8 := numB (h k)
def growthT (h : Nat → Int) : List UInt8 := if growB h then joinT [44] (growW h) 11 ++ [32] ++ numB (h 11) else []
theorem growthT_no {h : Nat → Int} (e : growB h = false) : growthT h = [] := by unfold growthT; rw [e]; rfl
theorem growthT_yes {h : Nat → Int} (e : growB h = true) : growthT h = joinT [44] (growW h) 11 ++ [32] ++ numB (h 11) := by unfold growthT; rw [e]; rfl

set_option maxRecDepth 100000 in
set_option maxHeartbeats 4000000 in
theorem l04Text_any (h : Nat → Int) (hg : growB h = true) (bp : Nat) (w : World) (hA : At w bp 12 (gro h)) :
    Calls Tryd.prog 49 #[.pointer (some ⟨bp, 0, none⟩)] w fun e w' => e = .returned (.string (bs (growthT h))) ∧ Below w.heap.size w w' := by
  have hM : Mem w [(bp, 12, gro h)] w := (Mem.nil w).old hA (fun i p h => by simp at h)
  have HP := Lib.hid (growthT_yes hg)
  obtain ⟨ht, hl0, hl1⟩ := growB_true hg
  have HF := Lib.hid ht
  have HL := Lib.hid (show ∀ k, k ≤ 11 → (joinT [44] (growW h) k).length ≤ 200 from fun k hk => by
    have h1 := joinT_len (sep := [44]) (f := growW h) (m := 10) k (fun j hj => numB_len (by have := ht j (by omega); omega))
    have h2 : k * (10 + 1) ≤ 11 * 11 := Nat.mul_le_mul (by omega) (by omega)
    simp only [List.length_cons, List.length_nil] at h1
    omega)
  have el : gro h 11 = .int .i16 (h 11) := rfl
  have HD := Lib.hid (fun (W : World) => Decimal_any (h 11) hl0 (by omega) W)
  have lt := numB_len (n := h 11) (by omega)
  obtain ⟨t, htt⟩ : ∃ t, h 11 = t := ⟨_, rfl⟩
  obtain ⟨u, hu⟩ : ∃ u, numB t = u := ⟨_, rfl⟩
  rw [htt] at el HD lt hl0 hl1 HP
  rw [hu] at HD lt HP
  have ct : IntKind.i64.wrap t = t := IntWalk.i64_in _ (by omega)
  clear hA hg ht htt hu
  go_enter Tryd.func49, Tryd.ntmps49
  go_wp2
  go_loopw [3, 4] (fun s i wr => ∃ (k : Nat) (l : List UInt8), k ≤ 11 ∧ i = .int .i64 k ∧ s = .string (bs l) ∧ Hid (l = joinT [44] (growW h) k) ∧ Mem w [(bp, 12, gro h)] wr) (fun _ i _ => 11 - (intOf i).toNat)
  case atStart => exact ⟨0, [], by omega, rfl, rfl, Lib.hid rfl, hM⟩
  case round =>
    clear hM
    obtain ⟨k, l, hk, rfl, rfl, hl, hM⟩ := hrel
    have hll := HL.out k hk
    rw [← hl.out] at hll
    by_cases hlt : k < 11
    · have l2 : (k : Int) < 11 := by omega
      obtain ⟨d0, d1⟩ := HF.out k hlt
      have ld := numB_len (n := h k) (by omega)
      have HK := Lib.hid (fun (W : World) => Decimal_any (h k) d0 (by omega) W)
      have e0 : gro h k = .int .i8 (h k) := gro_i8 h hlt
      obtain ⟨d, hd⟩ : ∃ d, h k = d := ⟨_, rfl⟩
      obtain ⟨v, hv⟩ : ∃ v, numB d = v := ⟨_, rfl⟩
      have HW := Lib.hid (show growW h k = v from by unfold growW; rw [hd, hv])
      rw [hd] at HK ld d0 d1 e0
      rw [hv] at HK ld
      clear hd hv
      have cd : IntKind.i64.wrap d = d := IntWalk.i64_in _ (by omega)
      rcases Nat.eq_zero_or_pos k with h0 | h0
      · have dz : decide ((k : Int) > 0) = false := decide_eq_false (by omega)
        have dy : decide (0 < (k : Int)) = false := decide_eq_false (by omega)
        have dx : decide (0 < k) = false := decide_eq_false (by omega)
        have hl0' := hl.out
        rw [h0, joinT_zero] at hl0'
        have H0 := Lib.hid h0
        clear h0
        go_wp2_with (first | (refine wpList_cat rfl _ _ rfl _ _ rfl rfl (by simp only [List.length_append, List.length_cons, List.length_nil]; omega) ?_) | (refine wpList_get1 rfl _ _ rfl _ _ rfl hM 0 rfl (cellTab _ rfl) (by omega) _ e0 ?_) | (go_at_call 94; (with_reducible refine (HK.out _).mono ?_); rintro e W' ⟨rfl, hb'⟩; have hM' := hM.call hb'; clear hM hb'; have hM := hM'; clear hM'))
        go_roundw
        case rel => exact ⟨k + 1, _, by omega, by go_num, rfl, Lib.hid (by have h0 := H0.out; have hw := HW.out; subst h0; rw [joinT_one, hw]), hM⟩
        case measure => simp [intOf]; omega
      · have dz : decide ((k : Int) > 0) = true := decide_eq_true (by omega)
        have dy : decide (0 < (k : Int)) = true := decide_eq_true (by omega)
        have dx : decide (0 < k) = true := decide_eq_true (by omega)
        go_wp2_with (first | (refine wpList_cat rfl _ _ rfl _ _ rfl rfl (by simp only [List.length_append, List.length_cons, List.length_nil]; omega) ?_) | (refine wpList_get1 rfl _ _ rfl _ _ rfl hM 0 rfl (cellTab _ rfl) (by omega) _ e0 ?_) | (go_at_call 94; (with_reducible refine (HK.out _).mono ?_); rintro e W' ⟨rfl, hb'⟩; have hM' := hM.call hb'; clear hM hb'; have hM := hM'; clear hM'))
        go_roundw
        case rel => exact ⟨k + 1, _, by omega, by go_num, rfl, Lib.hid (by rw [joinT_succ _ _ h0, HW.out, ← hl.out]; simp), hM⟩
        case measure => simp [intOf]; omega
    · obtain rfl : k = 11 := by omega
      go_wp2_with (first | (refine wpList_cat rfl _ _ rfl _ _ rfl rfl (by simp only [List.length_append, List.length_cons, List.length_nil]; omega) ?_) | (refine wpList_get1 rfl _ _ rfl _ _ rfl hM 0 rfl (cellTab _ rfl) (by omega) _ el ?_) | (go_at_call 94; (with_reducible refine (HD.out _).mono ?_); rintro e W' ⟨rfl, hb'⟩; have hM' := hM.call hb'; clear hM hb'; have hM := hM'; clear hM'))
      go_ret
      exact ⟨ret_bs (by rw [HP.out, ← hl.out]; simp), hM.below⟩

set_option maxRecDepth 100000 in
theorem specGrowthText_any (h : Nat → Int) (hF : FitsW h) (w : World) :
    Calls Tryd.prog 15 #[.agg (arr 12 (gro h))] w fun e w' => e = .returned (.string (bs (growthT h))) ∧ Below w.heap.size w w' := by
  have hM := Mem.nil w
  have tk_b1 : True := trivial
  cases hz : growB h
  · have Hz := Lib.hid hz
    have Hp := Lib.hid (growthT_no hz)
    clear hz
    go_enter Tryd.func15, Tryd.ntmps15
    go_wp2_with (first | (have _t := tk_b1; refine wpList_box rfl _ _ rfl _ _ rfl hM ?_; intro b1 W' hb1 hM'; clear hM tk_b1; have hM := hM'; clear hM') | (go_at_call 48; (with_reducible refine (l04Ok_any h hF b1 _ (hM.ats 0 _ _ _ rfl)).mono ?_); rintro e W' ⟨rfl, hb'⟩; rw [Hz.out]; have hM' := hM.call hb'; clear hM hb'; have hM := hM'; clear hM'))
    go_ret
    exact ⟨ret_bs Hp.out.symm, hM.below⟩
  · have Hz := Lib.hid hz
    clear hz
    go_enter Tryd.func15, Tryd.ntmps15
    go_wp2_with (first | (have _t := tk_b1; refine wpList_box rfl _ _ rfl _ _ rfl hM ?_; intro b1 W' hb1 hM'; clear hM tk_b1; have hM := hM'; clear hM') | (go_at_call 48; (with_reducible refine (l04Ok_any h hF b1 _ (hM.ats 0 _ _ _ rfl)).mono ?_); rintro e W' ⟨rfl, hb'⟩; rw [Hz.out]; have hM' := hM.call hb'; clear hM hb'; have hM := hM'; clear hM') | (go_at_call 49; (with_reducible refine (l04Text_any h Hz.out b1 _ (hM.ats 0 _ _ _ rfl)).mono ?_); rintro e W' ⟨rfl, hb'⟩; have hM' := hM.call hb'; clear hM hb'; have hM := hM'; clear hM'))
    go_ret
    exact ⟨rfl, hM.below⟩
end Go.Proofs.YtcdpdcjdjcbhcaaDoor

/-
  Words: a list of strings that grows; how it is joined.
-/
namespace Go.Proofs.YtcdpdcjdjcbhcaaDoor
open Go Go.RowKit Go.BigFrame

theorem strs_under : Tryd.prog.underlying 69 = some (.slice 9) := Tryd.underlying69
theorem strs_info : (Tryd.prog.info? 9).map (fun i => (i.size, i.zero)) = some (1, some (.string ⟨#[]⟩)) := by kernel_rfl
theorem strF_one {f : Nat → List UInt8} : ∀ k, k < 1 → ((fun _ => strF f k) k : Value).oneCell' = true := fun _ _ => rfl
/-- Words that a call listed, joined. -/
theorem join_lst {w : World} {K : Blocks} {v : Value} {n : Nat} {f : Nat → List UInt8} {W : World} (h : Lst (Base.of w) K 1 v n (strF f) W) (sep : List UInt8) (m : Nat) (hf : ∀ k, k < n → (f k).length ≤ m) (hm : n * (m + sep.length) ≤ 100000000) (hn : n ≤ 1048576) :
    Calls Tryd.prog 46 #[v, .string (bs sep)] W fun e w' => e = .returned (.string (bs (joinT sep f n))) ∧ Below W.heap.size W w' := by
  rcases h with ⟨rfl, rfl, hM⟩ | ⟨b, c, F, rfl, hb, hc, hF, hM⟩
  · exact join_none _ _ _ _
  · exact join_any b n (c * 1) c f F sep m hf hm hn (by omega) (fun k hk => hF k (by omega)) hc W (hM.ats 0 _ _ _ rfl)
end Go.Proofs.YtcdpdcjdjcbhcaaDoor

/-
  PLAIN LAWS: an element of an array by value.
-/
namespace Go.Proofs.YtcdpdcjdjcbhcaaDoor
open Go Go.RowKit
variable {P : Program} {ops : Array Oper} {rest : List Oper} {o : Oper} {a : Act} {W : World} {Q : Exit → Act → World → Prop}

theorem run_index_cell {t e : TypeId} {n : Nat} {f : Nat → Value} {κ : IntKind} {k : Nat} (hk : k < n) (ht : P.underlying t = some (.array n e)) (he : CellT P e) (W : World) : (Instr.index t (.agg (arr n f)) (.int κ k)).run P W = .ok (f k) W := by
  obtain ⟨⟨d, hu, hd⟩, hm⟩ := he
  have hagg : (isAgg e).run P W = .ok false W := by
    unfold isAgg; rw [Sem.run_bind, run_underlying hu W]; cases d <;> simp_all [TypeDesc.isRow]
  have hsz : (sizeOf e).run P W = .ok 1 W := by
    cases hq : P.info? e with
    | none => simp [hq] at hm
    | some i => simp [hq] at hm; simp [sizeOf, typeInfo, hq, hm]
  have h2 : (0 : Int) ≤ (k : Int) ∧ (k : Int) < (n : Int) := ⟨by omega, by omega⟩
  simp only [Instr.index, asIntOf, Sem.run_bind, Sem.run_pure, Result.andThen_ok, run_underlying ht, h2, and_self, if_true, hsz, Int.toNat_natCast, Nat.mul_one, part, hagg, Bool.false_eq_true, if_false, arr_at hk]

theorem wpList_index (hgd : o.guard = none) (t : TypeId) (x i : Operand) (ho : o.op = .index t x i) (n : Nat) (f : Nat → Value) (hx : a.eval x = .agg (arr n f)) (κ : IntKind) (k : Nat) (hi : a.eval i = .int κ k) (hk : k < n) {e : TypeId}
    (ht : P.underlying t = some (.array n e)) (he : CellT P e) (v : Value) (hv : f k = v) (h : wpList P ops Q rest (a.put o.dst v) W) : wpList P ops Q (o :: rest) a W := by
  refine wpList_plain hgd fun K hK => ?_
  unfold Oper.wp execOp
  simp only [ho, hx, hi, Sem.run_bind, Sem.run_pure, run_index_cell hk ht he, Result.andThen_ok, hv]
  exact hK _ _ h
end Go.Proofs.YtcdpdcjdjcbhcaaDoor

/-
  '==' on rows of integers, rows of such rows, and pastures.
-/
namespace Go.Proofs.YtcdpdcjdjcbhcaaDoor
open Go Go.RowKit
variable {P : Program}

theorem run_part_cell {e : TypeId} {κ : IntKind} (hu : P.underlying e = some (.int κ)) {n i : Nat} {f : Nat → Value} (hi : i < n) (W : World) : (part e (arr n f) i).run P W = .ok (f i) W := by
  have hagg : (isAgg e).run P W = .ok false W := by
    unfold isAgg; rw [Sem.run_bind, run_underlying hu W]; rfl
  simp only [part, Sem.run_bind, hagg, Result.andThen_ok, Bool.false_eq_true, if_false, arr_at hi, Sem.run_pure]
theorem run_part_row {e : TypeId} {m : Nat} (hT : RowT P e m) {n i : Nat} {f : Nat → Value} (hi : i + m ≤ n) (W : World) : (part e (arr n f) i).run P W = .ok (.agg (arr m (fun k => f (i + k)))) W := by
  obtain ⟨⟨d, hu, hd⟩, hm⟩ := hT
  have hagg : (isAgg e).run P W = .ok true W := by
    unfold isAgg; rw [Sem.run_bind, run_underlying hu W]; cases d <;> simp_all [TypeDesc.isRow]
  have hsz : (sizeOf e).run P W = .ok m W := by
    cases hq : P.info? e with
    | none => simp [hq] at hm
    | some i => simp [hq] at hm; simp [sizeOf, typeInfo, hq, hm]
  simp only [part, Sem.run_bind, hagg, Result.andThen_ok, if_true, hsz, Sem.run_pure, arr_extract hi]

theorem run_eqItems_ints (d : Nat) {e : TypeId} {κ : IntKind} (hu : P.underlying e = some (.int κ)) (hc : P.cellsOf e = 1) {n : Nat} (f g : Nat → Value) (a b : Nat → Int)
    (hf : ∀ k, k < n → f k = .int κ (a k)) (hg : ∀ k, k < n → g k = .int κ (b k)) (W : World) : ∀ is : List Nat, (∀ i ∈ is, i < n) →
    (Op.eqItems (d + 1) e (P.cellsOf e) (arr n f) (arr n g) is).run P W = .ok (is.all fun i => a i == b i) W
  | [], _ => by simp [Op.eqItems]
  | i :: is, h => by
    have hi := h i (by simp)
    simp only [Op.eqItems, Sem.run_bind, hc, Nat.mul_one, run_part_cell hu hi, Result.andThen_ok, hf i hi, hg i hi, run_equalIn_int W d e κ κ _ _ hu]
    cases hab : (a i == b i)
    · simp [hab]
    · have := run_eqItems_ints d hu hc f g a b hf hg W is (fun j hj => h j (by simp [hj]))
      rw [hc] at this
      simp [this, hab]

/-- Are the first n the same? -/
def eqTo (n : Nat) (a b : Nat → Int) : Bool := (List.range n).all fun i => a i == b i
theorem eqTo_iff {n : Nat} {a b : Nat → Int} : eqTo n a b = true ↔ ∀ k, k < n → a k = b k := by simp [eqTo]
theorem eqTo_congr {n : Nat} {a b a' b' : Nat → Int} (h : ∀ k, k < n → a k = a' k) (h' : ∀ k, k < n → b k = b' k) : eqTo n a b = eqTo n a' b' := by
  rw [Bool.eq_iff_iff, eqTo_iff, eqTo_iff]
  constructor
  · intro hh k hk; rw [← h k hk, ← h' k hk]; exact hh k hk
  · intro hh k hk; rw [h k hk, h' k hk]; exact hh k hk

theorem run_equalIn_row (d : Nat) {t e : TypeId} {κ : IntKind} {n : Nat} (ht : P.underlying t = some (.array n e)) (hu : P.underlying e = some (.int κ)) (hc : P.cellsOf e = 1) (f g : Nat → Value) (a b : Nat → Int)
    (hf : ∀ k, k < n → f k = .int κ (a k)) (hg : ∀ k, k < n → g k = .int κ (b k)) (W : World) : (Op.equalIn (d + 2) t (.agg (arr n f)) (.agg (arr n g))).run P W = .ok (eqTo n a b) W := by
  obtain ⟨i, hi⟩ := info_of_underlying hu
  rw [run_equalIn_array W (d + 1) _ _ ht hi, run_eqItems_ints d hu hc f g a b hf hg W _ (by simp)]
  rfl

theorem run_eqItems_rows (d : Nat) {t e : TypeId} {κ : IntKind} {m : Nat} (ht : P.underlying t = some (.array m e)) (hT : RowT P t m) (hcm : P.cellsOf t = m) (hu : P.underlying e = some (.int κ)) (hc : P.cellsOf e = 1) {n : Nat} (f g : Nat → Value) (a b : Nat → Int)
    (hf : ∀ k, k < n * m → f k = .int κ (a k)) (hg : ∀ k, k < n * m → g k = .int κ (b k)) (W : World) : ∀ is : List Nat, (∀ i ∈ is, i < n) →
    (Op.eqItems (d + 2) t (P.cellsOf t) (arr (n * m) f) (arr (n * m) g) is).run P W = .ok (is.all fun i => eqTo m (fun k => a (i * m + k)) (fun k => b (i * m + k))) W
  | [], _ => by simp [Op.eqItems]
  | i :: is, h => by
    have hi := h i (by simp)
    have hle : i * m + m ≤ n * m := by
      have := Nat.mul_le_mul_right m (show i + 1 ≤ n by omega)
      rw [Nat.add_mul, Nat.one_mul] at this; exact this
    have hrow := run_equalIn_row d ht hu hc (fun k => f (i * m + k)) (fun k => g (i * m + k)) (fun k => a (i * m + k)) (fun k => b (i * m + k)) (fun k hk => hf _ (by omega)) (fun k hk => hg _ (by omega)) W
    simp only [Op.eqItems, Sem.run_bind, hcm, run_part_row hT hle, Result.andThen_ok, hrow]
    cases hab : eqTo m (fun k => a (i * m + k)) (fun k => b (i * m + k))
    · simp [hab]
    · have := run_eqItems_rows d ht hT hcm hu hc f g a b hf hg W is (fun j hj => h j (by simp [hj]))
      rw [hcm] at this
      simp [this, hab]

theorem all_rows {n m : Nat} (a b : Nat → Int) (hm : 0 < m) : ((List.range n).all fun i => eqTo m (fun k => a (i * m + k)) (fun k => b (i * m + k))) = eqTo (n * m) a b := by
  rw [Bool.eq_iff_iff, eqTo_iff, List.all_eq_true]
  constructor
  · intro h k hk
    have hi : k / m < n := Nat.div_lt_of_lt_mul (by rw [Nat.mul_comm]; exact hk)
    have := (eqTo_iff.1 (h (k / m) (by simpa using hi))) (k % m) (Nat.mod_lt _ hm)
    have e : k / m * m + k % m = k := by rw [Nat.mul_comm]; exact Nat.div_add_mod k m
    rwa [e] at this
  · intro h i hi
    rw [eqTo_iff]
    intro k hk
    apply h
    have hi : i < n := by simpa using hi
    have := Nat.mul_le_mul_right m (show i + 1 ≤ n by omega)
    rw [Nat.add_mul, Nat.one_mul] at this; omega

theorem run_equalIn_rows (d : Nat) {u t e : TypeId} {κ : IntKind} {n m : Nat} (hu' : P.underlying u = some (.array n t)) (ht : P.underlying t = some (.array m e)) (hT : RowT P t m) (hcm : P.cellsOf t = m) (hu : P.underlying e = some (.int κ)) (hc : P.cellsOf e = 1) (hm : 0 < m) (f g : Nat → Value) (a b : Nat → Int)
    (hf : ∀ k, k < n * m → f k = .int κ (a k)) (hg : ∀ k, k < n * m → g k = .int κ (b k)) (W : World) : (Op.equalIn (d + 3) u (.agg (arr (n * m) f)) (.agg (arr (n * m) g))).run P W = .ok (eqTo (n * m) a b) W := by
  obtain ⟨i, hi⟩ := info_of_underlying ht
  rw [run_equalIn_array W (d + 2) _ _ hu' hi, run_eqItems_rows d ht hT hcm hu hc f g a b hf hg W _ (by simp), all_rows a b hm]

theorem cells_i16 : Tryd.prog.cellsOf 31 = 1 := by kernel_rfl
theorem cells_u16 : Tryd.prog.cellsOf 54 = 1 := by kernel_rfl
theorem cells_row : Tryd.prog.cellsOf 52 = 10 := by kernel_rfl

/-- '==' on [10][10]int16. -/
theorem run_equal_grass (f g : Nat → Value) (a b : Nat → Int) (hf : ∀ k, k < 100 → f k = .int .i16 (a k)) (hg : ∀ k, k < 100 → g k = .int .i16 (b k)) (W : World) (d : Nat) :
    (Op.equalIn (d + 3) 53 (.agg (arr 100 f)) (.agg (arr 100 g))).run Tryd.prog W = .ok (eqTo 100 a b) W :=
  run_equalIn_rows (n := 10) (m := 10) d Tryd.underlying53 Tryd.underlying52 (rowTab _ _ rfl) cells_row Tryd.underlying31 cells_i16 (by omega) f g a b hf hg W

/-- '==' on pastures. -/
theorem run_equal_pas (a b : Nat → Int) (W : World) :
    (Op.equalIn 10000 59 (.agg (arr 122 (pas a))) (.agg (arr 122 (pas b)))).run Tryd.prog W = .ok (eqTo 122 a b) W := by
  have hs := run_equalIn_struct (P := Tryd.prog) W 9999 59 (arr 122 (pas a)) (arr 122 (pas b)) (by rw [Program.fieldsOf, Tryd.underlying59]) (by kernel_rfl)
  rw [hs]
  have hf : (Tryd.prog.fieldsOf 59).toList = [
    { name := "Wide", type := 29, offset := 0, embedded := false, tag := "", pkgPath := "", byteOffset := 0 },
    { name := "High", type := 29, offset := 1, embedded := false, tag := "", pkgPath := "", byteOffset := 1 },
    { name := "Grass", type := 53, offset := 2, embedded := false, tag := "", pkgPath := "", byteOffset := 2 },
    { name := "East", type := 55, offset := 102, embedded := false, tag := "", pkgPath := "", byteOffset := 202 },
    { name := "South", type := 55, offset := 112, embedded := false, tag := "", pkgPath := "", byteOffset := 222 }] := by
    rw [Program.fieldsOf, Tryd.underlying59]
  rw [hf]
  have p0 := fun c => run_part_cell (P := Tryd.prog) Tryd.underlying29 (n := 122) (i := 0) (f := pas c) (by omega) W
  have p1 := fun c => run_part_cell (P := Tryd.prog) Tryd.underlying29 (n := 122) (i := 1) (f := pas c) (by omega) W
  have p2 := fun c => run_part_row (P := Tryd.prog) (rowTab 53 100 rfl) (n := 122) (i := 2) (f := pas c) (by omega) W
  have p3 := fun c => run_part_row (P := Tryd.prog) (rowTab 55 10 rfl) (n := 122) (i := 102) (f := pas c) (by omega) W
  have p4 := fun c => run_part_row (P := Tryd.prog) (rowTab 55 10 rfl) (n := 122) (i := 112) (f := pas c) (by omega) W
  have q0 := run_equalIn_int (P := Tryd.prog) W 9998 29 .i8 .i8 (a 0) (b 0) Tryd.underlying29
  have q1 := run_equalIn_int (P := Tryd.prog) W 9998 29 .i8 .i8 (a 1) (b 1) Tryd.underlying29
  have q2 := run_equal_grass (fun k => pas a (2 + k)) (fun k => pas b (2 + k)) (fun k => a (2 + k)) (fun k => b (2 + k)) (fun k hk => pas_i16 a (by omega) (by omega)) (fun k hk => pas_i16 b (by omega) (by omega)) W 9996
  have q3 := run_equalIn_row (P := Tryd.prog) (n := 10) 9997 Tryd.underlying55 Tryd.underlying54 cells_u16 (fun k => pas a (102 + k)) (fun k => pas b (102 + k)) (fun k => a (102 + k)) (fun k => b (102 + k)) (fun k hk => pas_u16 a (by omega)) (fun k hk => pas_u16 b (by omega)) W
  have q4 := run_equalIn_row (P := Tryd.prog) (n := 10) 9997 Tryd.underlying55 Tryd.underlying54 cells_u16 (fun k => pas a (112 + k)) (fun k => pas b (112 + k)) (fun k => a (112 + k)) (fun k => b (112 + k)) (fun k hk => pas_u16 a (by omega)) (fun k hk => pas_u16 b (by omega)) W
  have e0 : ∀ c : Nat → Int, pas c 0 = .int .i8 (c 0) := fun _ => rfl
  have e1 : ∀ c : Nat → Int, pas c 1 = .int .i8 (c 1) := fun _ => rfl
  simp only [Op.eqFields, ne_eq, Sem.run_bind, p0, p1, p2, p3, p4, Result.andThen_ok, e0, e1, q0, q1, q2, q3, q4, Sem.run_pure, Sem.run_ite]
  have key : eqTo 122 a b = ((a 0 == b 0) && (a 1 == b 1) && eqTo 100 (fun k => a (2 + k)) (fun k => b (2 + k)) && eqTo 10 (fun k => a (102 + k)) (fun k => b (102 + k)) && eqTo 10 (fun k => a (112 + k)) (fun k => b (112 + k))) := by
    rw [Bool.eq_iff_iff]
    simp only [Bool.and_eq_true, eqTo_iff, beq_iff_eq]
    constructor
    · intro h
      exact ⟨⟨⟨⟨h 0 (by omega), h 1 (by omega)⟩, fun k hk => h _ (by omega)⟩, fun k hk => h _ (by omega)⟩, fun k hk => h _ (by omega)⟩
    · rintro ⟨⟨⟨⟨h0, h1⟩, h2⟩, h3⟩, h4⟩ k hk
      by_cases k0 : k = 0
      · rw [k0]; exact h0
      by_cases k1 : k = 1
      · rw [k1]; exact h1
      by_cases k2 : k < 102
      · have := h2 (k - 2) (by omega); rwa [show 2 + (k - 2) = k by omega] at this
      by_cases k3 : k < 112
      · have := h3 (k - 102) (by omega); rwa [show 102 + (k - 102) = k by omega] at this
      · have := h4 (k - 112) (by omega); rwa [show 112 + (k - 112) = k by omega] at this
  rw [key]
  cases (a 0 == b 0) <;> cases (a 1 == b 1) <;> cases eqTo 100 (fun k => a (2 + k)) (fun k => b (2 + k)) <;> cases eqTo 10 (fun k => a (102 + k)) (fun k => b (102 + k)) <;> cases eqTo 10 (fun k => a (112 + k)) (fun k => b (112 + k)) <;> simp
end Go.Proofs.YtcdpdcjdjcbhcaaDoor

/-
  PLAIN LAWS: two results, the first in memory.
-/
namespace Go.Proofs.YtcdpdcjdjcbhcaaDoor
open Go Go.RowKit Go.BigFrame

theorem loadVar_at {P : Program} {ty : TypeId} {W : World} {b n : Nat} {f : Nat → Value} (hg : At W b n f) (hT : RowT P ty n) : (loadVar ty ⟨b, 0, none⟩).run P W = .ok (.agg (arr n f)) W := by
  obtain ⟨⟨d, hu, hd⟩, hm⟩ := hT
  obtain ⟨t, hg⟩ := hg
  exact run_loadVar_row W b t ty (arr n f) (0, 0) d hg hu (by cases d <;> simp_all [TypeDesc.isRow]) (by rw [hm, arr_size])
/-- Two results, the first in memory. -/
theorem results_at2 {P : Program} {fn : Func} {p q : Tmp} {ty : TypeId} (h : fn.results = #[.cell p ty, .tmp q]) (tmps : Array Value) {W : World} {b n : Nat} {f : Nat → Value}
    (hp : tmps.getD p undef = .pointer (some ⟨b, 0, none⟩)) (hg : At W b n f) (hT : RowT P ty n) (v : Value) (hq : tmps.getD q undef = v) :
    (results fn tmps).run P W = .ok (.tuple #[.agg (arr n f), v]) W := by
  rw [results_cell_tmp h, hp]
  have : (asAddr (.pointer (some ⟨b, 0, none⟩))).run P W = .ok ⟨b, 0, none⟩ W := rfl
  rw [this]
  simp only [Result.andThen_ok, loadVar_at hg hT, hq]

end Go.Proofs.YtcdpdcjdjcbhcaaDoor

/-
  impl.ValidGrowth and bounded by contracts; '==' on growths.
-/
namespace Go.Proofs.YtcdpdcjdjcbhcaaDoor
open Go Go.RowKit Go.BigFrame

/-- n, but not less than 0 nor more than m. -/
def clp (m n : Int) : Int := if n < 0 then 0 else if m < n then m else n
theorem clp_lo {m n : Int} (h : n < 0) : clp m n = 0 := by simp [clp, h]
theorem clp_hi {m n : Int} (h : ¬ n < 0) (h' : m < n) : clp m n = m := by simp [clp, h, h']
theorem clp_in {m n : Int} (h : ¬ n < 0) (h' : ¬ m < n) : clp m n = n := by simp [clp, h, h']
/-- h with n at place k. -/
def setW (h : Nat → Int) (k : Nat) (n : Int) : Nat → Int := fun j => if j = k then n else h j
theorem upd_tab (h : Nat → Int) (k : Nat) (n : Int) (hk : k < 11) : upd (gro h) k (.int .i8 n) = gro (setW h k n) := by
  funext j
  unfold upd gro setW grk
  by_cases e : j = k
  · subst e; simp [hk]
  · simp [e]
theorem upd_lim (h : Nat → Int) (n : Int) : upd (gro h) 11 (.int .i16 n) = gro (setW h 11 n) := by
  funext j
  unfold upd gro setW grk
  by_cases e : j = 11
  · subst e; simp
  · simp [e]
/-- The first j numbers of the table within bounds. -/
def bndT (h : Nat → Int) (j : Nat) : Nat → Int := fun p => if p < j then clp 100 (h p) else h p
def bndF (h : Nat → Int) : Nat → Int := setW (bndT h 11) 11 (clp 1000 (h 11))
theorem bndT_zero (h : Nat → Int) : bndT h 0 = h := by funext p; simp [bndT]
theorem bndT_succ (h : Nat → Int) (k : Nat) {n : Int} (e : clp 100 (h k) = n) : setW (bndT h k) k n = bndT h (k + 1) := by
  funext p
  unfold setW bndT
  by_cases e1 : p = k
  · subst e1; simp [e]
  · by_cases e2 : p < k
    · rw [if_neg e1, if_pos e2, if_pos (by omega)]
    · rw [if_neg e1, if_neg e2, if_neg (by omega)]
theorem bndT_at (h : Nat → Int) (k : Nat) : bndT h k k = h k := by simp [bndT]
theorem bndF_at (h : Nat → Int) : bndT h 11 11 = h 11 := by simp [bndT]
theorem eq_bnd (h : Nat → Int) : eqTo 12 h (bndF h) = growB h := by
  rw [Bool.eq_iff_iff, eqTo_iff, growB_iff]
  have hc : ∀ m n : Int, 0 ≤ m → (n = clp m n ↔ 0 ≤ n ∧ n ≤ m) := fun m n hm => by
    unfold clp
    constructor
    · intro e; split at e <;> try split at e
      all_goals omega
    · intro e; rw [if_neg (by omega), if_neg (by omega)]
  constructor
  · intro hh
    refine ⟨fun k hk => ?_, ?_⟩
    · have := hh k (by omega)
      unfold bndF setW bndT at this
      rw [if_neg (by omega), if_pos hk] at this
      exact (hc 100 _ (by omega)).1 this
    · have := hh 11 (by omega)
      unfold bndF setW at this
      rw [if_pos rfl] at this
      exact (hc 1000 _ (by omega)).1 this
  · rintro ⟨h1, h2⟩ k hk
    unfold bndF setW bndT
    by_cases e : k = 11
    · subst e; rw [if_pos rfl]; exact (hc 1000 _ (by omega)).2 h2
    · rw [if_neg e, if_pos (by omega)]; exact (hc 100 _ (by omega)).2 (h1 k (by omega))

theorem cells_i8 : Tryd.prog.cellsOf 29 = 1 := by kernel_rfl
/-- '==' on growths. -/
theorem run_equal_gro (a b : Nat → Int) (W : World) :
    (Op.equalIn 10000 35 (.agg (arr 12 (gro a))) (.agg (arr 12 (gro b)))).run Tryd.prog W = .ok (eqTo 12 a b) W := by
  have hs := run_equalIn_struct (P := Tryd.prog) W 9999 35 (arr 12 (gro a)) (arr 12 (gro b)) (by rw [Program.fieldsOf, Tryd.underlying35]) (by kernel_rfl)
  rw [hs]
  have hf : (Tryd.prog.fieldsOf 35).toList = [
    { name := "Table", type := 30, offset := 0, embedded := false, tag := "", pkgPath := "", byteOffset := 0 },
    { name := "Limit", type := 31, offset := 11, embedded := false, tag := "", pkgPath := "", byteOffset := 12 }] := by
    rw [Program.fieldsOf, Tryd.underlying35]
  rw [hf]
  have p0 := fun c => run_part_row (P := Tryd.prog) (rowTab 30 11 rfl) (n := 12) (i := 0) (f := gro c) (by omega) W
  have p1 := fun c => run_part_cell (P := Tryd.prog) Tryd.underlying31 (n := 12) (i := 11) (f := gro c) (by omega) W
  have q0 := run_equalIn_row (P := Tryd.prog) (n := 11) 9997 Tryd.underlying30 Tryd.underlying29 cells_i8 (fun k => gro a (0 + k)) (fun k => gro b (0 + k)) a b (fun k hk => by rw [Nat.zero_add]; exact gro_i8 a hk) (fun k hk => by rw [Nat.zero_add]; exact gro_i8 b hk) W
  have q1 := run_equalIn_int (P := Tryd.prog) W 9998 31 .i16 .i16 (a 11) (b 11) Tryd.underlying31
  have e1 : ∀ c : Nat → Int, gro c 11 = .int .i16 (c 11) := fun _ => rfl
  simp only [Op.eqFields, ne_eq, Sem.run_bind, p0, p1, Result.andThen_ok, e1, q0, q1, Sem.run_pure, Sem.run_ite]
  have key : eqTo 12 a b = (eqTo 11 a b && (a 11 == b 11)) := by
    rw [Bool.eq_iff_iff]
    simp only [Bool.and_eq_true, eqTo_iff, beq_iff_eq]
    constructor
    · intro h; exact ⟨fun k hk => h _ (by omega), h 11 (by omega)⟩
    · rintro ⟨h0, h1⟩ k hk
      by_cases k0 : k = 11
      · rw [k0]; exact h1
      · exact h0 k (by omega)
  rw [key]
  cases eqTo 11 a b <;> cases (a 11 == b 11) <;> simp
theorem eql_gro (a b : Nat → Int) (W : World) : (binOp .eql 35 (.agg (arr 12 (gro a))) (.agg (arr 12 (gro b)))).run Tryd.prog W = .ok (.bool (eqTo 12 a b)) W := by
  rw [run_eql_struct, run_equal_gro]; rfl

theorem lay_gro0 (f : Nat → Value) (g : Nat → Int) : ∀ k, k < 12 → lay f 0 12 (fun j => gro g (0 + j)) k = gro g k := fun k hk => by simp [lay, hk]

set_option maxRecDepth 100000 in
set_option maxHeartbeats 2000000 in
theorem bounded_any (h : Nat → Int) (hF : FitsW h) (w : World) :
    Calls Tryd.prog 99 #[.agg (arr 12 (gro h))] w fun e w' => e = .returned (.agg (arr 12 (gro (bndF h)))) ∧ Below w.heap.size w w' := by
  have hM := Mem.nil w
  have HF := Lib.hid hF
  clear hF
  have tk_b1 : True := trivial; have tk_b2 : True := trivial; have tk_q1 : True := trivial
  go_enter Tryd.func99, Tryd.ntmps99
  go_wp2_with (first | (have _t := tk_b1; refine wpList_box rfl _ _ rfl _ _ rfl hM ?_; intro b1 W' hb1 hM'; clear hM tk_b1; have hM := hM'; clear hM') | (have _t := tk_b2; refine wpList_zero rfl _ rfl (zeroTab _ _ _ rfl) hM ?_; intro b2 W' hb2 hM'; clear hM tk_b2; have hM := hM'; clear hM') | (have _t := tk_q1; (refine wpList_get rfl _ _ rfl _ _ rfl hM 1 rfl (rowTab _ _ rfl) (by omega) ?_); clear tk_q1))
  rw [← bndT_zero h] at hM
  go_loopw [7] (fun i wr => ∃ k : Nat, k ≤ 11 ∧ i = .int .i64 k ∧ Mem w [(b2, 12, zW), (b1, 12, gro (bndT h k))] wr) (fun i _ => 11 - (intOf i).toNat)
  case atStart => exact ⟨0, by omega, rfl, by first | exact hM | (rw [bndT_zero]; exact hM)⟩
  case round =>
    clear hM
    obtain ⟨k, hk, rfl, hM⟩ := hrel
    by_cases hlt : k < 11
    · have lk : (k : Int) < 11 := by omega
      have e0 : gro h k = .int .i8 (h k) := gro_i8 h hlt
      by_cases n0 : h k < 0
      · have d1 : ¬ (100 : Int) < h k := by omega
        have d2 : ¬ (0 : Int) < h k := by omega
        go_wp2_with (first | (refine wpList_index rfl _ _ _ rfl _ _ rfl _ _ rfl (by omega) Tryd.underlying30 (cellTab _ rfl) _ e0 ?_) | (refine wpList_set1 rfl _ _ _ rfl _ _ rfl _ rfl ?_ hM 1 rfl (by assumption) (cellTab _ rfl) (by omega) ?_; (first | rfl | exact h1 _); intro W' hM'; clear hM; have hM := hM'; clear hM'; simp [List.set, Act.eval] at hM))
        rw [upd_tab _ _ _ hlt, bndT_succ _ _ (clp_lo n0)] at hM
        go_roundw
        case rel => exact ⟨k + 1, by omega, by go_num, hM⟩
        case measure => simp [intOf]; omega
      by_cases n1 : 100 < h k
      · go_wp2_with (first | (refine wpList_index rfl _ _ _ rfl _ _ rfl _ _ rfl (by omega) Tryd.underlying30 (cellTab _ rfl) _ e0 ?_) | (refine wpList_set1 rfl _ _ _ rfl _ _ rfl _ rfl ?_ hM 1 rfl (by assumption) (cellTab _ rfl) (by omega) ?_; (first | rfl | exact h1 _); intro W' hM'; clear hM; have hM := hM'; clear hM'; simp [List.set, Act.eval] at hM))
        rw [upd_tab _ _ _ hlt, bndT_succ _ _ (clp_hi n0 n1)] at hM
        go_roundw
        case rel => exact ⟨k + 1, by omega, by go_num, hM⟩
        case measure => simp [intOf]; omega
      · have e3 : (if (0 : Int) < h k then h k else 0) = h k := by split <;> omega
        go_wp2_with (first | (refine wpList_index rfl _ _ _ rfl _ _ rfl _ _ rfl (by omega) Tryd.underlying30 (cellTab _ rfl) _ e0 ?_) | (refine wpList_set1 rfl _ _ _ rfl _ _ rfl _ rfl ?_ hM 1 rfl (by assumption) (cellTab _ rfl) (by omega) ?_; (first | rfl | exact h1 _); intro W' hM'; clear hM; have hM := hM'; clear hM'; simp [List.set, Act.eval] at hM))
        rw [upd_tab _ _ _ hlt, bndT_succ _ _ (clp_in n0 n1)] at hM
        go_roundw
        case rel => exact ⟨k + 1, by omega, by go_num, hM⟩
        case measure => simp [intOf]; omega
    · obtain rfl : k = 11 := by omega
      have e0 : gro (bndT h 11) 11 = .int .i16 (h 11) := by rw [gro_lim, bndF_at]
      by_cases n0 : h 11 < 0
      · have d1 : ¬ (1000 : Int) < h 11 := by omega
        have d2 : ¬ (0 : Int) < h 11 := by omega
        have Hb : Hid (setW (bndT h 11) 11 0 = bndF h) := Lib.hid (by rw [bndF, clp_lo n0])
        go_wp2_with (first | (refine wpList_get1 rfl _ _ rfl _ _ rfl hM 1 rfl (cellTab _ rfl) (by omega) _ e0 ?_) | (refine wpList_set1 rfl _ _ _ rfl _ _ rfl _ rfl ?_ hM 1 rfl (by assumption) (cellTab _ rfl) (by omega) ?_; (first | rfl | exact h1 _); intro W' hM'; clear hM; have hM := hM'; clear hM'; simp [List.set, Act.eval] at hM) | (refine wpList_get rfl _ _ rfl _ _ rfl hM 1 rfl (rowTab _ _ rfl) (by omega) ?_) | (refine wpList_lay rfl _ _ _ rfl _ _ rfl _ _ rfl hM 0 rfl (by assumption) (rowTab _ _ rfl) (by omega) ?_ ?_; (first | (intro _ _; rfl) | (intro k _; exact h1 _) | (intro k _; simp only [lay, upd]; (repeat' split) <;> first | exact h1 _ | rfl)); intro W' hM'; clear hM; have hM := hM'; clear hM'; simp only [List.set] at hM))
        rw [upd_lim, Hb.out] at hM
        exact bodyPost_ret (results_at rfl _ rfl ((hM.ats 0 _ _ _ rfl).congr (lay_gro0 _ _)) (rowTab _ _ rfl)) rfl ⟨rfl, hM.below⟩
      by_cases n1 : 1000 < h 11
      · have Hb : Hid (setW (bndT h 11) 11 1000 = bndF h) := Lib.hid (by rw [bndF, clp_hi n0 n1])
        go_wp2_with (first | (refine wpList_get1 rfl _ _ rfl _ _ rfl hM 1 rfl (cellTab _ rfl) (by omega) _ e0 ?_) | (refine wpList_set1 rfl _ _ _ rfl _ _ rfl _ rfl ?_ hM 1 rfl (by assumption) (cellTab _ rfl) (by omega) ?_; (first | rfl | exact h1 _); intro W' hM'; clear hM; have hM := hM'; clear hM'; simp [List.set, Act.eval] at hM) | (refine wpList_get rfl _ _ rfl _ _ rfl hM 1 rfl (rowTab _ _ rfl) (by omega) ?_) | (refine wpList_lay rfl _ _ _ rfl _ _ rfl _ _ rfl hM 0 rfl (by assumption) (rowTab _ _ rfl) (by omega) ?_ ?_; (first | (intro _ _; rfl) | (intro k _; exact h1 _) | (intro k _; simp only [lay, upd]; (repeat' split) <;> first | exact h1 _ | rfl)); intro W' hM'; clear hM; have hM := hM'; clear hM'; simp only [List.set] at hM))
        rw [upd_lim, Hb.out] at hM
        exact bodyPost_ret (results_at rfl _ rfl ((hM.ats 0 _ _ _ rfl).congr (lay_gro0 _ _)) (rowTab _ _ rfl)) rfl ⟨rfl, hM.below⟩
      · have e3 : (if (0 : Int) < h 11 then h 11 else 0) = h 11 := by split <;> omega
        have Hb : Hid (setW (bndT h 11) 11 (h 11) = bndF h) := Lib.hid (by rw [bndF, clp_in n0 n1])
        go_wp2_with (first | (refine wpList_get1 rfl _ _ rfl _ _ rfl hM 1 rfl (cellTab _ rfl) (by omega) _ e0 ?_) | (refine wpList_set1 rfl _ _ _ rfl _ _ rfl _ rfl ?_ hM 1 rfl (by assumption) (cellTab _ rfl) (by omega) ?_; (first | rfl | exact h1 _); intro W' hM'; clear hM; have hM := hM'; clear hM'; simp [List.set, Act.eval] at hM) | (refine wpList_get rfl _ _ rfl _ _ rfl hM 1 rfl (rowTab _ _ rfl) (by omega) ?_) | (refine wpList_lay rfl _ _ _ rfl _ _ rfl _ _ rfl hM 0 rfl (by assumption) (rowTab _ _ rfl) (by omega) ?_ ?_; (first | (intro _ _; rfl) | (intro k _; exact h1 _) | (intro k _; simp only [lay, upd]; (repeat' split) <;> first | exact h1 _ | rfl)); intro W' hM'; clear hM; have hM := hM'; clear hM'; simp only [List.set] at hM))
        rw [upd_lim, Hb.out] at hM
        exact bodyPost_ret (results_at rfl _ rfl ((hM.ats 0 _ _ _ rfl).congr (lay_gro0 _ _)) (rowTab _ _ rfl)) rfl ⟨rfl, hM.below⟩

set_option maxRecDepth 100000 in
set_option maxHeartbeats 1000000 in
theorem implValidGrowth_any (h : Nat → Int) (hF : FitsW h) (w : World) :
    Calls Tryd.prog 51 #[.agg (arr 12 (gro h))] w fun e w' => e = .returned (.bool (growB h)) ∧ Below w.heap.size w w' := by
  have hM := Mem.nil w
  have HF := Lib.hid hF
  have hq := eql_gro h (bndF h)
  have He := Lib.hid (eq_bnd h)
  clear hF
  have tk_b1 : True := trivial
  go_enter Tryd.func51, Tryd.ntmps51
  go_wp2_with (first | (have _t := tk_b1; refine wpList_box rfl _ _ rfl _ _ rfl hM ?_; intro b1 W' hb1 hM'; clear hM tk_b1; have hM := hM'; clear hM'))
  ((try simp only [Act.put, List.setIfInBounds_toArray, List.set_cons_succ, List.set_cons_zero]); refine wp_region_mem (by kernel_rfl) (by kernel_rfl) hM ?_; clear hM; (repeat (first | go_big_quiet_skip | (go_big_quiet_want; first | (refine quiet_get _ _ rfl _ _ rfl 0 rfl (rowTab _ _ rfl) (by omega) ?_; (simp only [Act.put, List.setIfInBounds_toArray, List.set_cons_succ, List.set_cons_zero]); go_big_quiet_on) | (refine quiet_call ?_; apply Exists.intro; apply Exists.intro; apply Exists.intro; refine ⟨fun W => ?_, fun W hM => ?_, ?_⟩; (go_simp; exact ⟨rfl, rfl⟩); (exact bounded_any h HF.out W); (simp only [Act.put, List.setIfInBounds_toArray, List.set_cons_succ, List.set_cons_zero]); go_big_quiet_on) | (refine quiet_val ?_; apply Exists.intro; refine ⟨fun W => ?_, ?_⟩; (go_simp; rfl); (simp only [Act.put, List.setIfInBounds_toArray, List.set_cons_succ, List.set_cons_zero]); go_big_quiet_on)))); (with_reducible refine wpQuiet_nil ?_); intro W' hM)
  go_wp2
  go_ret
  exact ⟨ret_bool He.out, hM.below⟩
end Go.Proofs.YtcdpdcjdjcbhcaaDoor

