/-
  Several texts in one: CopyL, Cut, Insert, Season, DayIn2, PlanForE.
-/
import Derived.Test.YtbbododeglkghaaDoorP5
import Derived.Laws.CopyRow
import Derived.Lib.AppendZerosOnto
import Derived.Lib.Overlaps
import Derived.Laws.Externs
import Derived.Test.YtbbododeglkghaaDoorP3
import Derived.Test.YtbbododeglkghaaDoorP4
/-
  PLAIN LAWS: copy from one list of one-cell elements to another, append of so many zeros; the rest of a list behind its first k.
-/
namespace Go.Proofs.YtbbododeglkghaaDoor
open Go Go.RowKit

theorem run_cutFrom {P : Program} {t e : TypeId} (hu : P.underlying t = some (.slice e)) {m : Nat} (hz : (P.info? e).map (·.size) = some m) (b off n c k : Nat) (hk : k ≤ n) (hkc : k < c) (W : World) :
    (Instr.sliceAt t (.slice (some ⟨b, off, none⟩) n c) (some (.int .i64 k)) none none).run P W = .ok (.slice (some ⟨b, off + k * m, none⟩) (n - k) (c - k)) W := by
  obtain ⟨ie, hie, hq⟩ := Option.map_eq_some_iff.1 hz
  have hle : (k : Int) ≤ n := by omega
  have hne : ¬ (c = k) := by omega
  have hne' : ¬ (c - k = 0) := by omega
  have hb1 : (Instr.sliceBound (.int .i64 k) n .sliceB).run P W = .ok k W := by
    simp [Instr.sliceBound, asIntOf, hle]
  have hr : (Instr.slice t (.slice (some ⟨b, off, none⟩) n c) (some (.int .i64 k)) none none).run P W = .ok (.slice (some ⟨b, off + k * m, none⟩) (n - k) (c - k)) W := by
    simp [Instr.slice, Instr.sliceBounds, run_underlying hu, sizeOf, typeInfo, hie, hq, hb1, add_any, hne, hne']
  unfold Instr.sliceAt
  simp only [Sem.run_bind, run_underlying hu, Result.andThen_ok, hr]

section
variable {P : Program} {ops : Array Oper} {rest : List Oper} {o : Oper} {a : Act} {w : Base} {W : World} {Q : Exit → Act → World → Prop} {L : Blocks}
/-- k cells of one list are copied over those of another (or the same one). -/
theorem wpList_copy1 (hgd : o.guard = none) (d s : Operand) (t e : TypeId) (ho : o.op = .call { callee := .builtin .copy, args := #[d, s], argTypes := #[t, t] })
    (hu : P.underlying t = some (.slice e)) (hz : (P.info? e).map (·.size) = some 1)
    (g og dL dC : Nat) (hd : a.eval d = .slice (some ⟨g, og, none⟩) dL dC) (bs os sL sC : Nat) (hs : a.eval s = .slice (some ⟨bs, os, none⟩) sL sC) (k : Nat) (hk : k = Nat.min sL dL)
    (hM : Mem w L W) (i : Nat) {N : Nat} {F : Nat → Value} (hi : L[i]? = some (g, N, F)) (hg : w.B ≤ g) (hN : og + k ≤ N)
    (j : Nat) {N' : Nat} {F' : Nat → Value} (hj : L[j]? = some (bs, N', F')) (hN' : os + k ≤ N') (h1 : ∀ q, q < k → (F' (os + q)).oneCell' = true)
    (h : ∀ W', Mem w (L.set i (g, N, lay F og k (fun q => F' (os + q)))) W' → wpList P ops Q rest (a.put o.dst (goInt k)) W') : wpList P ops Q (o :: rest) a W := by
  refine wpList_plain hgd fun J hJ => ?_
  obtain ⟨t0, ht0⟩ := hM.ats i _ _ _ hi
  have hsz : (arr k (fun q => F' (os + q))).toList.length = k := by simp [arr_size]
  have hr := run_copy_row (P := P) W t t o.type e g og dL dC ⟨bs, os, none⟩ sL sC (arr N F) t0 (arr k (fun q => F' (os + q))).toList hu hz ht0 (by rw [hsz, hk])
    (fun q v hq => by
      rw [arr_toList] at hq
      have hqk : q < k := by have := (List.getElem?_eq_some_iff.1 hq).1; simpa using this
      simp [hqk] at hq
      rw [add_any, (hM.ats j _ _ _ hj).cell (by omega), hq])
    (by rw [hsz, arr_size]; exact hN)
    (fun v hv => by rw [arr_toList] at hv; simp at hv; obtain ⟨q, hq, rfl⟩ := hv; exact h1 q hq)
  rw [hsz] at hr
  have ha := arr_lay (n := N) (o := og) (m := k) (f := F) (g := fun q => F' (os + q)) hN
  rw [hsz] at ha
  rw [ha] at hr
  unfold Oper.wp execOp
  simp only [ho, resolve, invoke, builtin, Sem.run_bind, Sem.run_pure, Result.andThen_ok, List.map_toArray, List.map_cons, List.map_nil, hd, hs, hr]
  exact hJ _ _ (h _ (hM.setRow i hi hg _))

/-- k zeros are appended to a list that is cut to nothing and has too little room. -/
theorem wpList_zeros (hgd : o.guard = none) (s x : Operand) (t tn : TypeId) (kn : IntKind) (ho : o.op = .call { callee := .builtin .append, args := #[s, x], argTypes := #[t, tn] })
    (e : TypeId) (bsz : Nat) (z : Value) (hu : P.underlying t = some (.slice e)) (hn : P.underlying tn = some (.int kn)) (hz : (P.info? e).map (fun i => (i.size, i.zero, i.bytes)) = some (1, some z, bsz)) (hzc : z.cells.size = 1) (hbs : bsz ≤ 1000)
    (b c k : Nat) (hs : a.eval s = .slice (some ⟨b, 0, none⟩) 0 c) (xi : Int) (hx : a.eval x = .int .i64 xi) (hxi : xi = k) (hk0 : 0 < k) (hck : c < k) (hk : k ≤ 1048576) (hM : Mem w L W)
    (h : ∀ b' c' F' W', w.B ≤ b' → k ≤ c' → Mem w ((b', c', F') :: L) W' → wpList P ops Q rest (a.put o.dst (.slice (some ⟨b', 0, none⟩) k c')) W') : wpList P ops Q (o :: rest) a W := by
  subst hxi
  obtain ⟨i, hi, hq⟩ := Option.map_eq_some_iff.1 hz
  simp only [Prod.mk.injEq] at hq
  obtain ⟨q1, q2, rfl⟩ := hq
  refine wpList_plain hgd fun J hJ => ?_
  have hold : (Builtin.firstCells i.size 0 (.slice (some ⟨b, 0, none⟩) 0 c)).run P W.drew = .ok ([] : List Value).toArray W.drew := run_firstCells_some W.drew i.size 0 ⟨b, 0, none⟩ 0 c [] (by simp) (fun j v hj => by simp at hj)
  have hkb : k * i.bytes ≤ 1048576 * 1000 := Nat.mul_le_mul hk hbs
  have hfit : Builtin.nextslicecap (0 + k) c * i.bytes ≤ 281474976710656 := growslice_fits (by omega) (by rw [Nat.zero_add]; omega)
  have hr := Lib.run_append_grow_zeros (P := P) W t tn o.type e i z .i64 kn hu hn hi q2 (some ⟨b, 0, none⟩) 0 c [] hold k hk0 (by omega) (by omega) (by omega) (by omega) hfit
  have hge := grownCap_ge W (0 + k) c e
  rw [Nat.zero_add] at hr hge
  unfold Oper.wp execOp
  simp only [ho, resolve, invoke, builtin, Sem.run_bind, Sem.run_pure, Result.andThen_ok, List.map_toArray, List.map_cons, List.map_nil, hs, hx, hr]
  refine hJ _ _ (h _ _ _ _ hM.size hge (hM.drew.allocA e _ (grownCap W k c e) ?_))
  simp only [Array.size_append, List.size_toArray, List.length_nil, size_zeroCells, hzc]
  omega
end
end Go.Proofs.YtbbododeglkghaaDoor

/-
  PLAIN LAWS: the first k of a list.
-/
namespace Go.Proofs.YtbbododeglkghaaDoor
open Go Go.RowKit

theorem run_cutTo {P : Program} {t e : TypeId} (hu : P.underlying t = some (.slice e)) {m : Nat} (hz : (P.info? e).map (·.size) = some m) (b off n c k : Nat) (hk : k ≤ c) (W : World) :
    (Instr.sliceAt t (.slice (some ⟨b, off, none⟩) n c) none (some (.int .i64 k)) none).run P W = .ok (.slice (some ⟨b, off, none⟩) k c) W := by
  obtain ⟨ie, hie, hq⟩ := Option.map_eq_some_iff.1 hz
  have hle : (k : Int) ≤ c := by omega
  have hb1 : (Instr.sliceBound (.int .i64 k) c .sliceAcap).run P W = .ok k W := by
    simp [Instr.sliceBound, asIntOf, hle]
  have hr : (Instr.slice t (.slice (some ⟨b, off, none⟩) n c) none (some (.int .i64 k)) none).run P W = .ok (.slice (some ⟨b, off, none⟩) k c) W := by
    simp [Instr.slice, Instr.sliceBounds, run_underlying hu, sizeOf, typeInfo, hie, hq, hb1, add_any]
  unfold Instr.sliceAt
  simp only [Sem.run_bind, run_underlying hu, Result.andThen_ok, hr]
end Go.Proofs.YtbbododeglkghaaDoor

/-
  slices.Insert of one number ahead of a list of numbers, by contract.
-/
namespace Go.Proofs.YtbbododeglkghaaDoor
open Go Go.RowKit Go.BigFrame

/-- x ahead of the n numbers that F holds. -/
def AheadOf (w : Base) (K : Blocks) (n : Nat) (F : Nat → Value) (x : Int) (e : Ending) (W' : World) : Prop := ∃ b' c' F', e = .returned (.slice (some ⟨b', 0, none⟩) (n + 1) c') ∧ w.B ≤ b' ∧ n + 1 ≤ c' ∧ F' 0 = .int .i64 x ∧ (∀ j, j < n → F' (j + 1) = F j) ∧ Mem w ((b', c', F') :: K) W'
theorem i64_size : (Tryd.prog.info? 2).map (·.size) = some 1 := by kernel_rfl

set_option maxRecDepth 100000 in
set_option maxHeartbeats 1000000 in
theorem insert_none (w : Base) (K : Blocks) (bv : Nat) (x : Int) (F : Nat → Value) (W : World) (hM : Mem w ((bv, 1, fun _ => .int .i64 x) :: K) W) :
    Calls Tryd.prog 76 #[.slice none 0 0, .int .i64 0, .slice (some ⟨bv, 0, none⟩) 1 1] W (AheadOf w K 0 F x) := by
  have Hq : Hid (∀ j, j < 1 → (fun _ => Value.int .i64 x) j = (fun _ => Value.int .i64 x) j) := Lib.hid (fun _ _ => rfl)
  have tk_p1 : True := trivial
  go_enter Tryd.func76, Tryd.ntmps76
  go_wp2_with (first | (have _t := tk_p1; refine wpList_push0 rfl _ _ _ rfl _ 1 _ _ int64s_underR infoInt64S rfl (by omega) rfl _ _ rfl hM (fun _ => Value.int .i64 x) Hq.out ?_; intro bL cL FL W' hbL hcL hFL hM'; clear hM tk_p1; have hM := hM'; clear hM'))
  go_ret
  exact ⟨bL, cL, FL, rfl, hbL, hcL, hFL 0 (by omega), fun j hj => absurd hj (by omega), by simpa using hM⟩

set_option maxRecDepth 100000 in
set_option maxHeartbeats 4000000 in
theorem insert_some (w : Base) (K : Blocks) (bv b n c : Nat) (x : Int) (F : Nat → Value) (hn : 1 ≤ n) (hnc : n ≤ c) (hn2 : n ≤ 100000) (hb : w.B ≤ b) (h1 : ∀ j, j < n → (F j).oneCell' = true) (W : World) (hM : Mem w ((bv, 1, fun _ => .int .i64 x) :: (b, c, F) :: K) W) :
    Calls Tryd.prog 76 #[.slice (some ⟨b, 0, none⟩) n c, .int .i64 0, .slice (some ⟨bv, 0, none⟩) 1 1] W (AheadOf w K n F x) := by
  have c0 : ¬ (c = 0) := by omega
  have n0 : ¬ ((n : Int) = 0) := by omega
  have n0' : ¬ (n = 0) := by omega
  have n0'' : ¬ ((0 : Int) = n) := by omega
  have n0b : ((0 : Int) == (n : Int)) = false := by rw [beq_eq_false_iff_ne]; omega
  have H1 := Lib.hid h1
  clear h1
  have hw1 : IntKind.i64.wrap ((n : Int) + 1) = (n : Int) + 1 := IntWalk.i64_in _ (by omega)
  by_cases hroom : n + 1 ≤ c
  · have d0 : decide ((c : Int) < (n : Int) + 1) = false := decide_eq_false (by omega)
    have c1 : ¬ (c = 1) := by omega
    have hle : (n : Int) + 1 ≤ c := by omega
    have hne : bv ≠ b := hM.apart 0 1 _ _ rfl rfl (by omega)
    have hov : ∀ lb cb, (callFunc 84 #[.slice (some ⟨bv, 0, none⟩) 1 1, .slice (some ⟨b, 1, none⟩) lb cb]).run Tryd.prog W = .ok (.value (.bool false)) W := fun lb cb => by
      obtain ⟨tv, htv⟩ := hM.ats 0 _ _ _ rfl
      obtain ⟨tb, htb⟩ := hM.ats 1 _ _ _ rfl
      rw [run_callFunc_extern Tryd.func84 (by kernel_rfl) (by kernel_rfl) (by kernel_rfl) (e := Extern.SlicesOverlaps.overlaps #[31, 31] #[4]) (by kernel_rfl),
        Lib.run_overlaps_apart W 31 4 2 int64s_underR 1 (fun W => by kernel_rfl) ⟨bv, 0, none⟩ ⟨b, 1, none⟩ 1 1 lb cb hne tv tb 1 c (by simp [World.shape?, htv, arr_size]) (by simp [World.shape?, htb, arr_size]) c0 (by simp [World.frozen?, htv]) (by simp [World.frozen?, htv])]
      rfl
    have hs1 : ∀ W, (Instr.sliceAt 31 (.slice (some ⟨b, 0, none⟩) (n + 1) c) (some (.int .i64 1)) none none).run Tryd.prog W = .ok (.slice (some ⟨b, 1, none⟩) n (c - 1)) W := fun W => run_cutFrom int64s_underR i64_size b 0 (n + 1) c 1 (by omega) (by omega) W
    have hs0 : ∀ W, (Instr.sliceAt 31 (.slice (some ⟨b, 0, none⟩) (n + 1) c) (some (.int .i64 0)) none none).run Tryd.prog W = .ok (.slice (some ⟨b, 0, none⟩) (n + 1) c) W := fun W => run_cutFrom int64s_underR i64_size b 0 (n + 1) c 0 (by omega) (by omega) W
    go_enter Tryd.func76, Tryd.ntmps76
    go_wp2
    have w1 : IntKind.i64.wrap 1 = 1 := IntWalk.i64_in _ (by omega)
    have b1 : (0 : Int) ≤ 1 ∧ (1 : Int) ≤ (n : Int) + 1 := by omega
    have b0 : (0 : Int) ≤ (n : Int) + 1 := by omega
    ((try simp only [Act.put, List.setIfInBounds_toArray, List.set_cons_succ, List.set_cons_zero]); refine region_head_mem (m := 8) (by kernel_rfl) (by kernel_rfl) hM ?_; clear hM; simp only [List.take_succ_cons, List.take_zero, List.drop_succ_cons, List.drop_zero]; (repeat (first | go_big_quiet_skip | (go_big_quiet_want; first | (refine quiet_val ?_; apply Exists.intro; refine ⟨fun W => ?_, ?_⟩; (go_simp; (try simp only [w1, b1, b0, c1, c0, Int.toNat_one, Int.toNat_zero, Nat.add_sub_cancel, Nat.sub_zero, if_true, Bool.false_eq_true, if_false]); rfl); (simp only [Act.put, List.setIfInBounds_toArray, List.set_cons_succ, List.set_cons_zero]); go_big_quiet_on)))); (with_reducible refine wpQuiet_nil ?_); intro W' hM)
    have tk_p1 : True := trivial; have tk_p2 : True := trivial
    go_wp2_with (first | (have _t := tk_p1; refine wpList_copy1 rfl _ _ _ _ rfl int64s_underR i64_size b 1 n (c - 1) rfl b 0 (n + 1) c rfl n (by show n = min (n + 1) n; omega) hM 1 rfl hb (by omega) 1 rfl (by omega) (fun q hq => by rw [Nat.zero_add]; exact H1.out q hq) ?_; intro W' hM'; clear hM tk_p1; have hM := hM'; clear hM'; simp only [List.set] at hM) | (have _t := tk_p2; refine wpList_copy1 rfl _ _ _ _ rfl int64s_underR i64_size b 0 (n + 1) c rfl bv 0 1 1 rfl 1 (by show 1 = min 1 (n + 1); omega) hM 1 rfl hb (by omega) 0 rfl (by omega) (fun _ _ => rfl) ?_; intro W' hM'; clear hM tk_p2; have hM := hM'; clear hM'; simp only [List.set] at hM))
    go_ret
    refine ⟨b, c, _, rfl, hb, hroom, ?_, fun j hj => ?_, hM.drop⟩
    · simp [lay]
    · simp only [lay]
      rw [if_neg (by omega), if_pos (by omega)]
      congr 1; omega
  · have d0 : decide ((c : Int) < (n : Int) + 1) = true := decide_eq_true (by omega)
    go_enter Tryd.func76, Tryd.ntmps76
    have tk_z1 : True := trivial; have tk_p1 : True := trivial; have tk_p2 : True := trivial
    go_wp2_with (first | (have _t := tk_z1; refine wpList_zeros rfl _ _ _ _ .i64 rfl 2 8 (.int .i64 0) int64s_underR Tryd.underlying3 infoInt64S rfl (by omega) b c (n + 1) rfl ((n : Int) + 1) rfl (by omega) (by omega) (by omega) (by omega) hM ?_; intro bN cN FN W' hbN hcN hM'; clear hM tk_z1; have hM := hM'; clear hM'; have cN0 : ¬ (cN = 0) := (by omega); have cN1 : ¬ (cN = 1) := (by omega)) | (have _t := tk_p1; refine wpList_copy1 rfl _ _ _ _ rfl int64s_underR i64_size bN 0 (n + 1) cN rfl bv 0 1 1 rfl 1 (by show 1 = min 1 (n + 1); omega) hM 0 rfl hbN (by omega) 1 rfl (by omega) (fun _ _ => rfl) ?_; intro W' hM'; clear hM tk_p1; have hM := hM'; clear hM'; simp only [List.set] at hM))
    have w1 : IntKind.i64.wrap 1 = 1 := IntWalk.i64_in _ (by omega)
    have b1 : (0 : Int) ≤ 1 ∧ (1 : Int) ≤ (n : Int) + 1 := by omega
    have b0 : (0 : Int) ≤ (n : Int) := by omega
    ((try simp only [Act.put, List.setIfInBounds_toArray, List.set_cons_succ, List.set_cons_zero]); refine region_head_mem (m := 8) (by kernel_rfl) (by kernel_rfl) hM ?_; clear hM; simp only [List.take_succ_cons, List.take_zero, List.drop_succ_cons, List.drop_zero]; (repeat (first | go_big_quiet_skip | (go_big_quiet_want; first | (refine quiet_val ?_; apply Exists.intro; refine ⟨fun W => ?_, ?_⟩; (go_simp; (try simp only [w1, b1, b0, cN1, c0, Int.toNat_one, Int.toNat_zero, Nat.add_sub_cancel, Nat.sub_zero, if_true, Bool.false_eq_true, if_false]); rfl); (simp only [Act.put, List.setIfInBounds_toArray, List.set_cons_succ, List.set_cons_zero]); go_big_quiet_on)))); (with_reducible refine wpQuiet_nil ?_); intro W' hM)
    go_wp2_with (first | (have _t := tk_p2; refine wpList_copy1 rfl _ _ _ _ rfl int64s_underR i64_size bN 1 n (cN - 1) rfl b 0 n c rfl n (by show n = min n n; omega) hM 0 rfl hbN (by omega) 2 rfl (by omega) (fun q hq => by rw [Nat.zero_add]; exact H1.out q hq) ?_; intro W' hM'; clear hM tk_p2; have hM := hM'; clear hM'; simp only [List.set] at hM))
    go_ret
    refine ⟨bN, cN, _, rfl, hbN, hcN, ?_, fun j hj => ?_, hM.skip.skip⟩
    · simp [lay]
    · simp only [lay]
      rw [if_pos (by omega)]
      congr 1; omega
end Go.Proofs.YtbbododeglkghaaDoor

/-
  impl.seasonOf by contract.
-/
namespace Go.Proofs.YtbbododeglkghaaDoor
open Go Go.RowKit Go.BigFrame

/-- The day of a herd that needs so much, as a value. -/
def liveV (need : Int) : Value := .func (.func 73) #[.int .i64 need] #[]
@[go_sem] theorem liveV_eq (need : Int) : liveV need = .func (.func 73) #[.int .i64 need] #[] := rfl

set_option maxRecDepth 100000 in
set_option maxHeartbeats 1000000 in
theorem seasonOf_0 {a : Nat → Addr} (b N n c : Nat) (F : Nat → Value) (hs : Nat → Nat → Int) (hN : n * 3 ≤ N) (hf : ∀ j, j < n * 3 → F j = sMeadow hs j) (hF : ∀ i, i < n → FitsMeadow (hs i)) (hn : n ≤ 1048576) (need : Int) (w : World) (hB : At w b N F) (hE : Errs a w) (hm : meadsB n hs = false) :
    Calls Tryd.prog 53 #[.slice (some ⟨b, 0, none⟩) n c, .int .i64 need] w fun e w' => e = .returned (.tuple #[.nilFunc, errV (a 0)]) ∧ Below w.heap.size w w' := by
  have hM : Mem w [(b, N, F)] w := (Mem.nil w).old hB (fun i p h => by simp at h)
  have HF := Lib.hid hF
  have Hf := Lib.hid hf
  have HE := Lib.hid hE
  have Hm := Lib.hid hm
  clear hF hB hE hf hm
  go_enter Tryd.func53, Tryd.ntmps53
  go_wp2_with (first | (go_at_call 67; refine (implValidMeadows_any b N n c F hs hN Hf.out HF.out hn _ (hM.ats 0 _ _ _ rfl) (HE.out.below hM.below)).mono ?_; rintro e W' ⟨rfl, hb'⟩; rw [Hm.out]; have hM' := hM.call hb'; have hE' := HE.out.below hM'.below; have v0 : W'.cell? ⟨0, 0, none⟩ = some (errV (a 0)) := hE'.vars 0 (by omega); clear hM hb' hE'; have hM := hM'; clear hM'))
  ((try simp only [Act.put, List.setIfInBounds_toArray, List.set_cons_succ, List.set_cons_zero]); refine wp_region_mem (by kernel_rfl) (by kernel_rfl) hM ?_; clear hM; (repeat (first | go_big_quiet_skip | (go_big_quiet_want; first | (refine quiet_old _ _ rfl _ _ rfl (cellTab _ rfl) (errV (a 0)) (fun W hM => (HE.out.below hM.below).vars 0 (by omega)) ?_; (simp only [Act.put, List.setIfInBounds_toArray, List.set_cons_succ, List.set_cons_zero]); go_big_quiet_on) | (refine quiet_val ?_; apply Exists.intro; refine ⟨fun W => ?_, ?_⟩; (go_simp; rfl); (simp only [Act.put, List.setIfInBounds_toArray, List.set_cons_succ, List.set_cons_zero]); go_big_quiet_on)))); (with_reducible refine wpQuiet_nil ?_); intro W' hM)
  go_wp2
  go_ret2
  exact ⟨rfl, hM.below⟩

set_option maxRecDepth 100000 in
set_option maxHeartbeats 1000000 in
theorem seasonOf_1 {a : Nat → Addr} (b N n c : Nat) (F : Nat → Value) (hs : Nat → Nat → Int) (hN : n * 3 ≤ N) (hf : ∀ j, j < n * 3 → F j = sMeadow hs j) (hF : ∀ i, i < n → FitsMeadow (hs i)) (hn : n ≤ 1048576) (need : Int) (w : World) (hB : At w b N F) (hE : Errs a w) (hm : meadsB n hs = true) (hd : inB 1 1000 need = false) :
    Calls Tryd.prog 53 #[.slice (some ⟨b, 0, none⟩) n c, .int .i64 need] w fun e w' => e = .returned (.tuple #[.nilFunc, errV (a 1)]) ∧ Below w.heap.size w w' := by
  have hM : Mem w [(b, N, F)] w := (Mem.nil w).old hB (fun i p h => by simp at h)
  have HF := Lib.hid hF
  have Hf := Lib.hid hf
  have HE := Lib.hid hE
  have Hm := Lib.hid hm
  have h' : ¬ (1 ≤ need ∧ need ≤ 1000) := of_decide_eq_false hd
  clear hF hB hE hf hm hd
  by_cases h1 : need < 1
  · have d0 : decide (need < 1) = true := decide_eq_true h1
    clear h'
    go_enter Tryd.func53, Tryd.ntmps53
    go_wp2_with (first | (go_at_call 67; (with_reducible refine (implValidMeadows_any b N n c F hs hN Hf.out HF.out hn _ (hM.ats 0 _ _ _ rfl) (HE.out.below hM.below)).mono ?_); rintro e W' ⟨rfl, hb'⟩; rw [Hm.out]; have hM' := hM.call hb'; clear hM hb'; have hM := hM'; clear hM'))
    ((try simp only [Act.put, List.setIfInBounds_toArray, List.set_cons_succ, List.set_cons_zero]); refine wp_region_mem (by kernel_rfl) (by kernel_rfl) hM ?_; clear hM; (repeat (first | go_big_quiet_skip | (go_big_quiet_want; first | (refine quiet_old _ _ rfl _ _ rfl (cellTab _ rfl) (errV (a 1)) (fun W hM => (HE.out.below hM.below).vars 1 (by omega)) ?_; (simp only [Act.put, List.setIfInBounds_toArray, List.set_cons_succ, List.set_cons_zero]); go_big_quiet_on) | (refine quiet_val ?_; apply Exists.intro; refine ⟨fun W => ?_, ?_⟩; (go_simp; rfl); (simp only [Act.put, List.setIfInBounds_toArray, List.set_cons_succ, List.set_cons_zero]); go_big_quiet_on)))); (with_reducible refine wpQuiet_nil ?_); intro W' hM)
    go_wp2
    go_ret2
    exact ⟨rfl, hM.below⟩
  · have d0 : decide (need < 1) = false := decide_eq_false h1
    have d1 : decide (1000 < need) = true := decide_eq_true (by omega)
    clear h'
    go_enter Tryd.func53, Tryd.ntmps53
    go_wp2_with (first | (go_at_call 67; (with_reducible refine (implValidMeadows_any b N n c F hs hN Hf.out HF.out hn _ (hM.ats 0 _ _ _ rfl) (HE.out.below hM.below)).mono ?_); rintro e W' ⟨rfl, hb'⟩; rw [Hm.out]; have hM' := hM.call hb'; clear hM hb'; have hM := hM'; clear hM'))
    ((try simp only [Act.put, List.setIfInBounds_toArray, List.set_cons_succ, List.set_cons_zero]); refine wp_region_mem (by kernel_rfl) (by kernel_rfl) hM ?_; clear hM; (repeat (first | go_big_quiet_skip | (go_big_quiet_want; first | (refine quiet_old _ _ rfl _ _ rfl (cellTab _ rfl) (errV (a 1)) (fun W hM => (HE.out.below hM.below).vars 1 (by omega)) ?_; (simp only [Act.put, List.setIfInBounds_toArray, List.set_cons_succ, List.set_cons_zero]); go_big_quiet_on) | (refine quiet_val ?_; apply Exists.intro; refine ⟨fun W => ?_, ?_⟩; (go_simp; rfl); (simp only [Act.put, List.setIfInBounds_toArray, List.set_cons_succ, List.set_cons_zero]); go_big_quiet_on)))); (with_reducible refine wpQuiet_nil ?_); intro W' hM)
    go_wp2
    go_ret2
    exact ⟨rfl, hM.below⟩

set_option maxRecDepth 100000 in
set_option maxHeartbeats 1000000 in
theorem seasonOf_ok {a : Nat → Addr} (b N n c : Nat) (F : Nat → Value) (hs : Nat → Nat → Int) (hN : n * 3 ≤ N) (hf : ∀ j, j < n * 3 → F j = sMeadow hs j) (hF : ∀ i, i < n → FitsMeadow (hs i)) (hn : n ≤ 1048576) (need : Int) (w : World) (hB : At w b N F) (hE : Errs a w) (hm : meadsB n hs = true) (hd : inB 1 1000 need = true) :
    Calls Tryd.prog 53 #[.slice (some ⟨b, 0, none⟩) n c, .int .i64 need] w fun e w' => e = .returned (.tuple #[liveV need, .nilIface]) ∧ Below w.heap.size w w' := by
  have hM : Mem w [(b, N, F)] w := (Mem.nil w).old hB (fun i p h => by simp at h)
  have HF := Lib.hid hF
  have Hf := Lib.hid hf
  have HE := Lib.hid hE
  have Hm := Lib.hid hm
  have h' := inB_true hd
  have d0 : decide (need < 1) = false := decide_eq_false (by omega)
  have d1 : decide (1000 < need) = false := decide_eq_false (by omega)
  clear hF hB hE hf hm hd h'
  go_enter Tryd.func53, Tryd.ntmps53
  go_wp2_with (first | (go_at_call 67; (with_reducible refine (implValidMeadows_any b N n c F hs hN Hf.out HF.out hn _ (hM.ats 0 _ _ _ rfl) (HE.out.below hM.below)).mono ?_); rintro e W' ⟨rfl, hb'⟩; rw [Hm.out]; have hM' := hM.call hb'; clear hM hb'; have hM := hM'; clear hM'))
  go_ret2
  exact ⟨rfl, hM.below⟩
end Go.Proofs.YtbbododeglkghaaDoor

/-
  (impl.hunger).dayIn by contract.
-/
namespace Go.Proofs.YtbbododeglkghaaDoor
open Go Go.RowKit Go.BigFrame

set_option maxRecDepth 100000 in
set_option maxHeartbeats 1000000 in
theorem dayIn_no {a : Nat → Addr} (b n c N : Nat) (F : Nat → Value) (hs : Nat → Nat → Int) (hN : n * 3 ≤ N) (hF : ∀ j, j < n * 3 → F j = sMeadow hs j) (hb : ∀ i, i < n → meadB (hs i) = true) (need : Int) (m : Nat) (hm : m < n) (he : hs m 0 < need) (w : World) (hA : At w b N F) (hE : Errs a w) :
    Calls Tryd.prog 73 #[.int .i64 need, .slice (some ⟨b, 0, none⟩) n c, .int .i64 m] w fun e w' => e = .returned (.tuple #[.slice none 0 0, errV (a 2)]) ∧ Below w.heap.size w w' := by
  have hM : Mem w [(b, N, F)] w := (Mem.nil w).old hA (fun i p h => by simp at h)
  obtain ⟨h2, h0, h1⟩ := meadB_iff (hb m hm)
  have lm : (m : Int) < n := by omega
  have em : F (m * 3) = .int .i16 (hs m 0) := by rw [hF _ (by omega)]; exact sMeadow_row hs m 0 (by omega)
  have c0 : IntKind.i64.wrap (hs m 0) = hs m 0 := IntWalk.i64_in _ (by omega)
  have d0 : decide (hs m 0 < need) = true := decide_eq_true he
  have HE := Lib.hid hE
  clear hA hF hb hE
  go_enter Tryd.func73, Tryd.ntmps73
  go_wp2_with (first | (refine wpList_get1 rfl _ _ rfl _ _ rfl hM 0 rfl (cellTab _ rfl) (by omega) _ em ?_))
  ((try simp only [Act.put, List.setIfInBounds_toArray, List.set_cons_succ, List.set_cons_zero]); refine wp_region_mem (by kernel_rfl) (by kernel_rfl) hM ?_; clear hM; (repeat (first | go_big_quiet_skip | (go_big_quiet_want; first | (refine quiet_old _ _ rfl _ _ rfl (cellTab _ rfl) (errV (a 2)) (fun W hM => (HE.out.below hM.below).vars 2 (by omega)) ?_; (simp only [Act.put, List.setIfInBounds_toArray, List.set_cons_succ, List.set_cons_zero]); go_big_quiet_on) | (refine quiet_val ?_; apply Exists.intro; refine ⟨fun W => ?_, ?_⟩; (go_simp; rfl); (simp only [Act.put, List.setIfInBounds_toArray, List.set_cons_succ, List.set_cons_zero]); go_big_quiet_on)))); (with_reducible refine wpQuiet_nil ?_); intro W' hM)
  go_wp2
  go_ret2
  exact ⟨rfl, hM.below⟩

section
variable {P : Program} {o : Oper} {a : Act} {w : Base} {L : Blocks} {K : Act → Prop}
/-- A call of a method through an interface value. -/
theorem quiet_inv (r x : Operand) (name : String) (ats : Array TypeId) (ho : o.op = .call { callee := .invoke r name, args := #[x], argTypes := ats }) (rv xv : Value) (hr : a.eval r = rv) (hx : a.eval x = xv) (f : FuncId) (args : Array Value)
    (hm : ∀ W, (callMethod rv name #[xv]).run P W = .ok (.enter f args) W) (v : Value) (hc : ∀ W, Mem w L W → Calls P f args W fun e w' => e = .returned v ∧ Below W.heap.size W w') (h : K (a.put o.dst v)) : o.quiet P a (Mem w L) K :=
  quiet_call ⟨f, args, v, fun W => by
    unfold execOp
    simp only [ho, resolve, invoke, Sem.run_bind, Sem.run_pure, Result.andThen_ok, List.map_toArray, List.map_cons, List.map_nil, hr, hx]
    exact hm W, hc, h⟩
end
theorem inv_rest (x : Value) (W : World) : (callMethod restV "loop.example/g01345/impl.leaves" #[x]).run Tryd.prog W = .ok (.enter 104 #[.agg #[], x]) W := by kernel_rfl
theorem inv_graze (need : Int) (x : Value) (W : World) : (callMethod (grazeV need) "loop.example/g01345/impl.leaves" #[x]).run Tryd.prog W = .ok (.enter 105 #[.int .i64 need, x]) W := by kernel_rfl

/-- The meadows behind a day, and no error. -/
def GivesD (n : Nat) (hs : Nat → Nat → Int) (w : World) (e : Ending) (w' : World) : Prop := ∃ b c F, e = .returned (.tuple #[.slice (some ⟨b, 0, none⟩) n c, .nilIface]) ∧ w.heap.size ≤ b ∧ n ≤ c ∧ (∀ j, j < n * 3 → F j = sMeadow hs j) ∧ At w' b (c * 3) F ∧ Below w.heap.size w w'

/-- On the way: the first k are those behind the day. -/
def midM (hs : Nat → Nat → Int) (need : Int) (m k i j : Nat) : Int := if i < k then dayM hs need m i j else hs i j
theorem mid_start {n : Nat} {F : Nat → Value} {hs : Nat → Nat → Int} {need : Int} {m : Nat} (hF : ∀ j, j < n * 3 → F j = sMeadow hs j) : ∀ j, j < n * 3 → F j = sMeadow (midM hs need m 0) j := fun j hj => by
  rw [hF j hj]
  simp [sMeadow, vMeadow, midM]
theorem mid_cells {n : Nat} {F : Nat → Value} {hs : Nat → Nat → Int} {need : Int} {m k : Nat} (hF : ∀ j, j < n * 3 → F j = sMeadow (midM hs need m k) j) {v : Int} (hv : v = dayM hs need m k 0) : ∀ j, j < n * 3 → upd F (k * 3) (.int .i16 v) j = sMeadow (midM hs need m (k + 1)) j := fun j hj => by
  simp only [upd]
  have hr := sMeadow_row (midM hs need m (k + 1)) (j / 3) (j % 3) (by omega)
  rw [show j / 3 * 3 + j % 3 = j by omega] at hr
  rw [hr]
  by_cases e : j = k * 3
  · have e1 : j / 3 = k := by omega
    have e2 : j % 3 = 0 := by omega
    rw [if_pos e, e1, e2, hv]
    simp [vMeadow, midM, kMeadow]
  · have hr := sMeadow_row (midM hs need m k) (j / 3) (j % 3) (by omega)
    rw [show j / 3 * 3 + j % 3 = j by omega] at hr
    rw [if_neg e, hF j hj, hr]
    simp only [vMeadow, midM]
    by_cases e1 : j / 3 < k
    · rw [if_pos e1, if_pos (by omega)]
    · rw [if_neg e1]
      by_cases e2 : j / 3 = k
      · have e3 : j % 3 ≠ 0 := by omega
        rw [if_pos (by omega)]
        simp only [dayM, if_neg e3]
      · rw [if_neg (by omega)]
theorem mid_all {n : Nat} {F : Nat → Value} {hs : Nat → Nat → Int} {need : Int} {m : Nat} (hF : ∀ j, j < n * 3 → F j = sMeadow (midM hs need m n) j) : ∀ j, j < n * 3 → F j = sMeadow (dayM hs need m) j := fun j hj => by
  rw [hF j hj]
  have hr := sMeadow_row (midM hs need m n) (j / 3) (j % 3) (by omega)
  have hr' := sMeadow_row (dayM hs need m) (j / 3) (j % 3) (by omega)
  rw [show j / 3 * 3 + j % 3 = j by omega] at hr hr'
  rw [hr, hr']
  simp only [vMeadow, midM]
  rw [if_pos (by omega)]

set_option maxRecDepth 100000 in
set_option maxHeartbeats 4000000 in
theorem dayIn_yes (b n c N : Nat) (F : Nat → Value) (hs : Nat → Nat → Int) (hn1 : 1 ≤ n) (hn : n ≤ 6) (hN : n * 3 ≤ N) (hF : ∀ j, j < n * 3 → F j = sMeadow hs j) (hb : ∀ i, i < n → meadB (hs i) = true) (need : Int) (hd : 1 ≤ need ∧ need ≤ 1000) (m : Nat) (hm : m < n) (he : need ≤ hs m 0) (w : World) (hA : At w b N F) :
    Calls Tryd.prog 73 #[.int .i64 need, .slice (some ⟨b, 0, none⟩) n c, .int .i64 m] w (GivesD n (dayM hs need m) w) := by
  have hM : Mem w [(b, N, F)] w := (Mem.nil w).old hA (fun i p h => by simp at h)
  obtain ⟨h2, h0, h1⟩ := meadB_iff (hb m hm)
  have lm : (m : Int) < n := by omega
  have em : F (m * 3) = .int .i16 (hs m 0) := by rw [hF _ (by omega)]; exact sMeadow_row hs m 0 (by omega)
  have c0 : IntKind.i64.wrap (hs m 0) = hs m 0 := IntWalk.i64_in _ (by omega)
  have d0 : decide (hs m 0 < need) = false := decide_eq_false (by omega)
  have Hf := Lib.hid hF
  have Hb := Lib.hid hb
  clear hA hF hb
  go_enter Tryd.func73, Tryd.ntmps73
  go_wp2_with (first | (refine wpList_get1 rfl _ _ rfl _ _ rfl hM 0 rfl (cellTab _ rfl) (by omega) _ em ?_) | (go_at_call 71; (with_reducible refine (clone_meads b n c N F hs hn1 (by omega) hN Hf.out _ (hM.ats 0 _ _ _ rfl)).mono ?_); rintro e W' ⟨bL, cL, FL, rfl, hbL, hcL, hFL, hAL, hbl⟩; have hbL2 := Nat.le_trans hM.size hbL; have hM' := hM.freshQ hbl hAL hbL; clear hM hbl hAL; have hM := hM'; clear hM'))
  go_loopw [24] (fun i wr => ∃ k : Nat, k ≤ n ∧ i = .int .i64 k ∧ ∃ G, Hid (∀ j, j < n * 3 → G j = sMeadow (midM hs need m k) j) ∧ Mem w [(bL, cL * 3, G), (b, N, F)] wr) (fun i _ => n - (intOf i).toNat)
  case atStart => exact ⟨0, by omega, rfl, _, Lib.hid (mid_start hFL), hM⟩
  case round =>
    clear hM hFL em d0 c0
    obtain ⟨k, hk, rfl, G, hG, hM⟩ := hrel
    by_cases hlt : k < n
    · have l2 : (k : Int) < n := by omega
      have lc : (k : Int) < cL := by omega
      have er : arr 3 (fun j => F (k * 3 + j)) = arr 3 (vMeadow (hs k)) := arr_congr fun j hj => by rw [Hf.out _ (by omega)]; exact sMeadow_row hs k j hj
      have e3 : arr 3 (fun j => vMeadow (hs k) (0 + j)) = arr 3 (vMeadow (hs k)) := arr_congr fun j _ => by rw [Nat.zero_add]
      obtain ⟨k2, k0, k1⟩ := meadB_iff (Hb.out k hlt)
      have hc := cutM_in Hb.out hd he hlt
      obtain ⟨v, hv⟩ : ∃ v : Int, v = dayM hs need m k 0 := ⟨_, rfl⟩
      have hvb : 0 ≤ v ∧ v ≤ 1000 := by
        have hv' : v = minQ (hs k 2) (cutM hs need m k 0 + hs k 1) := by rw [hv]; simp [dayM]
        rw [hv']; unfold minQ; split <;> omega
      have d4 : IntKind.i16.wrap v = v := IntWalk.i16_in _ (by omega)
      have Hv := Lib.hid hv
      by_cases hkm : k = m
      · have HD := Lib.hid (fun W => dayOf_same (k : Int) m need (by omega) W)
        have HL : Hid (∀ W, Calls Tryd.prog 105 #[.int .i64 need, .agg (arr 3 (vMeadow (hs k)))] W fun e w' => e = .returned (.int .i64 v) ∧ Below W.heap.size W w') := Lib.hid (fun W => by
          have := grazeLeaves (hs k) need (Hb.out k hlt) hd (by rw [hkm]; exact he) W
          rw [hv]
          simp only [dayM, if_pos rfl]
          rw [hkm, cutM_same, ← hkm]
          exact this)
        clear hv hc hkm
        have tk_b3 : True := trivial; have tk_r1 : True := trivial; have tk_r2 : True := trivial
        go_wp2_with (first | (have _t := tk_r1; (refine wpList_get rfl _ _ rfl _ _ rfl hM 1 rfl rowMeadow (by omega) ?_); rw [er]; clear tk_r1) | (have _t := tk_b3; refine wpList_zero rfl _ rfl zeroMeadow hM ?_; intro b3 W' hb3 hM'; clear hM tk_b3; have hM := hM'; clear hM') | (have _t := tk_r2; (refine wpList_lay rfl _ _ _ rfl _ _ rfl _ _ rfl hM 0 rfl (by assumption) rowMeadow (by omega) (fun _ _ => rfl) ?_; intro W' hM'; clear hM; have hM1 := hM'.re 0 rfl (vMeadow (hs k)) (fun j hj => by simp only [lay]; rw [if_pos ⟨by omega, by omega⟩, Nat.sub_zero]); simp only [List.set_cons_zero] at hM1; clear hM'; have hM := hM1; clear hM1); clear tk_r2))
        ((try simp only [Act.put, List.setIfInBounds_toArray, List.set_cons_succ, List.set_cons_zero]); refine region_head_mem (m := 11) (by kernel_rfl) (by kernel_rfl) hM ?_; clear hM; simp only [List.take_succ_cons, List.take_zero, List.drop_succ_cons, List.drop_zero]; (repeat (first | go_big_quiet_skip | (go_big_quiet_want; first | (refine quiet_call ?_; apply Exists.intro; apply Exists.intro; apply Exists.intro; refine ⟨fun W => ?_, fun W hM => ?_, ?_⟩; (go_simp; exact ⟨rfl, rfl⟩); (with_reducible exact HD.out W); (simp only [Act.put, List.setIfInBounds_toArray, List.set_cons_succ, List.set_cons_zero]); go_big_quiet_on) | (refine quiet_inv _ _ _ _ rfl _ _ rfl rfl _ _ (inv_graze need _) _ (fun W _ => HL.out W) ?_; (simp only [Act.put, List.setIfInBounds_toArray, List.set_cons_succ, List.set_cons_zero]); go_big_quiet_on) | (refine quiet_get _ _ rfl _ _ rfl 0 rfl rowMeadow (by omega) ?_; (simp only [e3]); (simp only [Act.put, List.setIfInBounds_toArray, List.set_cons_succ, List.set_cons_zero]); go_big_quiet_on) | (refine quiet_val ?_; apply Exists.intro; refine ⟨fun W => ?_, ?_⟩; (go_simp; (try simp only [l2, lc, d4, if_true, Bool.false_eq_true, if_false]); rfl); (simp only [Act.put, List.setIfInBounds_toArray, List.set_cons_succ, List.set_cons_zero]); go_big_quiet_on)))); (with_reducible refine wpQuiet_nil ?_); intro W' hM)
        go_wp2_with (first | (refine wpList_set1 rfl _ _ _ rfl _ _ rfl _ rfl ?_ hM 1 rfl (by assumption) (cellTab _ rfl) (by omega) ?_; (first | rfl | exact h1 _); intro W' hM'; clear hM; have hM := hM'; clear hM'; simp [List.set, Act.eval] at hM))
        go_roundw
        case rel => exact ⟨k + 1, by omega, by go_num, _, Lib.hid (mid_cells hG.out Hv.out), hM.drop⟩
        case measure => simp [intOf]; omega
      · have HD := Lib.hid (fun W => dayOf_other (k : Int) m need (by omega) W)
        have HL : Hid (∀ W, Calls Tryd.prog 104 #[.agg #[], .agg (arr 3 (vMeadow (hs k)))] W fun e w' => e = .returned (.int .i64 v) ∧ Below W.heap.size W w') := Lib.hid (fun W => by
          have := restLeaves (hs k) (Hb.out k hlt) W
          rw [hv]
          simp only [dayM, if_pos rfl]
          rw [cutM_other hkm]
          exact this)
        clear hv hc hkm
        have tk_b3 : True := trivial; have tk_r1 : True := trivial; have tk_r2 : True := trivial
        go_wp2_with (first | (have _t := tk_r1; (refine wpList_get rfl _ _ rfl _ _ rfl hM 1 rfl rowMeadow (by omega) ?_); rw [er]; clear tk_r1) | (have _t := tk_b3; refine wpList_zero rfl _ rfl zeroMeadow hM ?_; intro b3 W' hb3 hM'; clear hM tk_b3; have hM := hM'; clear hM') | (have _t := tk_r2; (refine wpList_lay rfl _ _ _ rfl _ _ rfl _ _ rfl hM 0 rfl (by assumption) rowMeadow (by omega) (fun _ _ => rfl) ?_; intro W' hM'; clear hM; have hM1 := hM'.re 0 rfl (vMeadow (hs k)) (fun j hj => by simp only [lay]; rw [if_pos ⟨by omega, by omega⟩, Nat.sub_zero]); simp only [List.set_cons_zero] at hM1; clear hM'; have hM := hM1; clear hM1); clear tk_r2))
        ((try simp only [Act.put, List.setIfInBounds_toArray, List.set_cons_succ, List.set_cons_zero]); refine region_head_mem (m := 11) (by kernel_rfl) (by kernel_rfl) hM ?_; clear hM; simp only [List.take_succ_cons, List.take_zero, List.drop_succ_cons, List.drop_zero]; (repeat (first | go_big_quiet_skip | (go_big_quiet_want; first | (refine quiet_call ?_; apply Exists.intro; apply Exists.intro; apply Exists.intro; refine ⟨fun W => ?_, fun W hM => ?_, ?_⟩; (go_simp; exact ⟨rfl, rfl⟩); (with_reducible exact HD.out W); (simp only [Act.put, List.setIfInBounds_toArray, List.set_cons_succ, List.set_cons_zero]); go_big_quiet_on) | (refine quiet_inv _ _ _ _ rfl _ _ rfl rfl _ _ (inv_rest _) _ (fun W _ => HL.out W) ?_; (simp only [Act.put, List.setIfInBounds_toArray, List.set_cons_succ, List.set_cons_zero]); go_big_quiet_on) | (refine quiet_get _ _ rfl _ _ rfl 0 rfl rowMeadow (by omega) ?_; (simp only [e3]); (simp only [Act.put, List.setIfInBounds_toArray, List.set_cons_succ, List.set_cons_zero]); go_big_quiet_on) | (refine quiet_val ?_; apply Exists.intro; refine ⟨fun W => ?_, ?_⟩; (go_simp; (try simp only [l2, lc, d4, if_true, Bool.false_eq_true, if_false]); rfl); (simp only [Act.put, List.setIfInBounds_toArray, List.set_cons_succ, List.set_cons_zero]); go_big_quiet_on)))); (with_reducible refine wpQuiet_nil ?_); intro W' hM)
        go_wp2_with (first | (refine wpList_set1 rfl _ _ _ rfl _ _ rfl _ rfl ?_ hM 1 rfl (by assumption) (cellTab _ rfl) (by omega) ?_; (first | rfl | exact h1 _); intro W' hM'; clear hM; have hM := hM'; clear hM'; simp [List.set, Act.eval] at hM))
        go_roundw
        case rel => exact ⟨k + 1, by omega, by go_num, _, Lib.hid (mid_cells hG.out Hv.out), hM.drop⟩
        case measure => simp [intOf]; omega
    · obtain rfl : k = n := by omega
      go_wp2
      go_ret2
      exact ⟨bL, cL, G, rfl, hbL, hcL, mid_all hG.out, hM.at0, hM.below⟩
end Go.Proofs.YtbbododeglkghaaDoor

/-
  (*impl.search).planFor, with everyMeadow, by contract.
-/
namespace Go.Proofs.YtbbododeglkghaaDoor
open Go Go.RowKit Go.BigFrame

/-- A search's cells. -/
def srchVE (need : Int) (B t : Nat) : Nat → Value := fun k => if k = 0 then liveV need else if k = 1 then .func (.func 66) #[] #[] else if k = 2 then .int .i64 (B : Int) else .int .i64 (t : Int)
theorem season_cellE : CellT Tryd.prog 74 := ⟨⟨_, Tryd.underlying74, rfl⟩, by kernel_rfl⟩
theorem offer_cellE : CellT Tryd.prog 88 := ⟨⟨_, Tryd.underlying88, rfl⟩, by kernel_rfl⟩
theorem srch_tickE (need : Int) (B t : Nat) : ∀ k, k < 4 → upd (srchVE need B t) 3 (.int .i64 ((t : Int) + 1)) k = srchVE need B (t + 1) k := fun k hk => by
  rcases (show k = 0 ∨ k = 1 ∨ k = 2 ∨ k = 3 by omega) with rfl | rfl | rfl | rfl <;> rfl
theorem Mem.skip3E {w : Base} {W : World} {p q r : Nat × Nat × (Nat → Value)} {L : Blocks} (h : Mem w (p :: q :: r :: L) W) : Mem w (p :: q :: L) W :=
  ⟨h.good, fun i b n f hi => by
    match i, hi with
    | 0, hi => exact h.ats 0 b n f (by simpa using hi)
    | 1, hi => exact h.ats 1 b n f (by simpa using hi)
    | i + 2, hi => exact h.ats (i + 3) b n f (by simpa using hi),
   fun i j x y hi hj hne => by
    match i, j, hi, hj with
    | 0, 0, _, _ => exact absurd rfl hne
    | 1, 1, _, _ => exact absurd rfl hne
    | 0, 1, hi, hj => exact h.apart 0 1 x y (by simpa using hi) (by simpa using hj) (by omega)
    | 1, 0, hi, hj => exact h.apart 1 0 x y (by simpa using hi) (by simpa using hj) (by omega)
    | 0, j + 2, hi, hj => exact h.apart 0 (j + 3) x y (by simpa using hi) (by simpa using hj) (by omega)
    | 1, j + 2, hi, hj => exact h.apart 1 (j + 3) x y (by simpa using hi) (by simpa using hj) (by omega)
    | i + 2, 0, hi, hj => exact h.apart (i + 3) 0 x y (by simpa using hi) (by simpa using hj) (by omega)
    | i + 2, 1, hi, hj => exact h.apart (i + 3) 1 x y (by simpa using hi) (by simpa using hj) (by omega)
    | i + 2, j + 2, hi, hj => exact h.apart (i + 3) (j + 3) x y (by simpa using hi) (by simpa using hj) (by omega)⟩

def NotPoorE (a b : Int) : Prop := ¬ a < b
def NotSpentE (a b : Nat) : Prop := ¬ a = b
/-- What a search gives. -/
def PlanRE (a : Nat → Addr) (w : World) (K : Blocks) (bs : Nat) (need : Int) (B : Nat) (r : Fnd) (e : Ending) (W' : World) : Prop :=
  (∃ p t' b v, r = (some p, t', b) ∧ e = .returned (.tuple #[v, .nilIface]) ∧ (p.length = 0 → v = .slice none 0 0) ∧ Lst w ((bs, 4, srchVE need B t') :: K) 1 v p.length (vI (natI p)) W') ∨
  (∃ t', r = (none, t', true) ∧ e = .returned (.tuple #[.slice none 0 0, errV (a 6)]) ∧ Mem w ((bs, 4, srchVE need B t') :: K) W') ∨
  (∃ t', r = (none, t', false) ∧ e = .returned (.tuple #[.slice none 0 0, errV (a 4)]) ∧ Mem w ((bs, 4, srchVE need B t') :: K) W')

set_option maxRecDepth 100000 in
set_option maxHeartbeats 16000000 in
theorem planForE {a : Nat → Addr} (w : World) (hE : Errs a w) (need : Int) (hd : 1 ≤ need ∧ need ≤ 1000) (B : Nat) (hB : B ≤ 20000) (n : Nat) (hn1 : 1 ≤ n) (hn6 : n ≤ 6) (bs : Nat) (hbs : w.heap.size ≤ bs) :
    ∀ (d : Nat), d ≤ 30 → ∀ (hs : Nat → Nat → Int) (_ : ∀ i, i < n → meadB (hs i) = true) (t : Nat) (_ : t ≤ B) (bl N c : Nat) (F : Nat → Value) (_ : n * 3 ≤ N) (_ : ∀ j, j < n * 3 → F j = sMeadow hs j) (K : Blocks) (W : World) (_ : Mem w ((bs, 4, srchVE need B t) :: (bl, N, F) :: K) W),
      Calls Tryd.prog 61 #[.pointer (some ⟨bs, 0, none⟩), .slice (some ⟨bl, 0, none⟩) n c, .int .i64 (d : Int)] W (PlanRE a w ((bl, N, F) :: K) bs need B (goS need B (fun _ => List.range n) d hs t)) := by
  intro d
  induction d with
  | zero =>
    intro _ hs _ t _ bl N c F _ _ K W hM
    go_enter Tryd.func61, Tryd.ntmps61
    go_wp2
    go_ret2
    exact .inl ⟨[], t, false, _, rfl, rfl, fun _ => rfl, .inl ⟨rfl, rfl, hM⟩⟩
  | succ d ih =>
    intro hd30 hs hb t ht bl N c F hN hF K W hM
    have HE := Lib.hid hE
    have Hb := Lib.hid hb
    have Hf := Lib.hid hF
    have IH := Lib.hid ih
    clear hE hb hF ih
    have dd : decide (((d + 1 : Nat) : Int) = 0) = false := decide_eq_false (by omega)
    have db : (((d + 1 : Nat) : Int) == 0) = false := by rw [beq_eq_false_iff_ne]; omega
    have dn : ¬ (((d + 1 : Nat) : Int) = 0) := by omega
    have dw : IntKind.i64.wrap (((d + 1 : Nat) : Int) - 1) = (d : Int) := by rw [IntWalk.i64_in _ (by omega)]; omega
    obtain ⟨ml, hml⟩ : ∃ ml : List Nat, ml = (fun _ => List.range n) hs := ⟨_, rfl⟩
    have hR : goS need B (fun _ => List.range n) (d + 1) hs t = tryL need B (goS need B (fun _ => List.range n) d) hs ml t := by rw [hml]; rfl
    have hmn : ∀ i, (h : i < ml.length) → ml[i] < n := by
      rw [hml]; intro i h; simp only [List.getElem_range]; simpa using h
    have hm0 : 0 < ml.length := by rw [hml]; simp; omega
    have hlen : ml.length ≤ 6 := by rw [hml]; simp; omega
    rw [hR]
    have hoff : ∀ W, Mem w ((bs, 4, srchVE need B t) :: (bl, N, F) :: K) W → Calls Tryd.prog 66 #[.slice (some ⟨bl, 0, none⟩) n c] W (GivesV ml W) := fun W hM => by
      rw [hml]; exact everyMeadow_any n c (some ⟨bl, 0, none⟩) hn6 _
    have Hoff := Lib.hid hoff
    have Hmn := Lib.hid hmn
    generalize hr : tryL need B (goS need B (fun _ => List.range n) d) hs ml t = r
    have e1 : srchVE need B t 1 = .func (.func 66) #[] #[] := rfl
    clear hoff hmn hml hR
    generalize hdI : ((d + 1 : Nat) : Int) = dI at *
    go_enter Tryd.func61, Tryd.ntmps61
    go_wp2_with (first | (refine wpList_get1 rfl _ _ rfl _ _ rfl hM 0 rfl offer_cellE (by omega) _ e1 ?_) | (go_at_call 66; refine (Hoff.out _ hM).mono ?_; rintro e W' ⟨vo, rfl, hL0⟩; obtain ⟨bo, co, Fo, rfl, hbo, hco, hFo, hAo, hbl⟩ := hL0.someQ hm0; have hbo2 := Nat.le_trans hM.size hbo; have hM' := hM.freshQ hbl hAo hbo; clear hM hbl hAo hL0; have hM := hM'; clear hM'))
    go_loopw [22] (fun i wr => ∃ k : Nat, k ≤ ml.length ∧ i = .int .i64 k ∧ ∃ t' : Nat, t' ≤ B ∧ Hid (tryL need B (goS need B (fun _ => List.range n) d) hs (ml.drop k) t' = r) ∧ Mem w ((bs, 4, srchVE need B t') :: (bo, co * 1, Fo) :: (bl, N, F) :: K) wr) (fun i _ => ml.length - (intOf i).toNat)
    case atStart => exact ⟨0, by omega, rfl, t, ht, Lib.hid hr, hM.swap⟩
    case round =>
      clear hM hr Hoff e1 ht t
      obtain ⟨k, hk, rfl, t, ht, hr, hM⟩ := hrel
      by_cases hlt : k < ml.length
      · have l2 : (k : Int) < ml.length := by omega
        obtain ⟨m, hm⟩ : ∃ m : Nat, m = ml[k] := ⟨_, rfl⟩
        have hmn := Hmn.out k hlt
        rw [← hm] at hmn
        have hdrop : ml.drop k = m :: ml.drop (k + 1) := by rw [hm]; exact List.drop_eq_getElem_cons hlt
        have Hd := Lib.hid hdrop
        have ek : Fo k = .int .i64 (m : Int) := by rw [hFo k (by omega), natI_at hlt, hm]
        have e0 : srchVE need B t 0 = liveV need := rfl
        have e2 : srchVE need B t 2 = .int .i64 (B : Int) := rfl
        have e3 : srchVE need B t 3 = .int .i64 (t : Int) := rfl
        clear hm hdrop
        by_cases hp : hs m 0 < need
        · have Hr : Hid (tryL need B (goS need B (fun _ => List.range n) d) hs (ml.drop (k + 1)) t = r) := Lib.hid (by rw [← hr.out, Hd.out, tryL_poor hp])
          go_wp2_with (first | (refine wpList_get1 rfl _ _ rfl _ _ rfl hM 1 rfl (cellTab _ rfl) (by omega) _ ek ?_) | (refine wpList_get1 rfl _ _ rfl _ _ rfl hM 0 rfl season_cellE (by omega) _ e0 ?_) | (go_at_call 73; (with_reducible refine (dayIn_no bl n c N F hs hN Hf.out Hb.out need m hmn hp _ (hM.ats 2 _ _ _ rfl) (HE.out.below hM.below)).mono ?_); rintro e W' ⟨rfl, hb'⟩; have hM' := hM.call hb'; clear hM hb'; have hM := hM'; clear hM'))
          go_roundw
          case rel => exact ⟨k + 1, by omega, by go_num, t, ht, Hr, hM⟩
          case measure => simp [intOf]; omega
        by_cases ht2 : t = B
        · have Hr : Hid (r = (none, t, true)) := Lib.hid (by rw [← hr.out, Hd.out, tryL_spent hp ht2])
          have tb : ((t : Int) == (B : Int)) = true := by rw [beq_iff_eq]; omega
          have hp' : need ≤ hs m 0 := by omega
          clear ht2
          go_wp2_with (first | (refine wpList_get1 rfl _ _ rfl _ _ rfl hM 1 rfl (cellTab _ rfl) (by omega) _ ek ?_) | (refine wpList_get1 rfl _ _ rfl _ _ rfl hM 0 rfl season_cellE (by omega) _ e0 ?_) | (go_at_call 73; (with_reducible refine (dayIn_yes bl n c N F hs hn1 hn6 hN Hf.out Hb.out need hd m hmn hp' _ (hM.ats 2 _ _ _ rfl)).mono ?_); rintro e W' ⟨bN, cN, FN, rfl, hbN, hcN, hFN, hAN, hbl⟩; have hbN2 := Nat.le_trans hM.size hbN; have hM' := (hM.freshQ hbl hAN hbN).swap; clear hM hbl hAN; have hM := hM'; clear hM'))
          ((try simp only [Act.put, List.setIfInBounds_toArray, List.set_cons_succ, List.set_cons_zero]); refine wp_region_mem (by kernel_rfl) (by kernel_rfl) hM ?_; clear hM; (repeat (first | go_big_quiet_skip | (go_big_quiet_want; first | (have _t := trivial; (refine quiet_get1 _ _ rfl _ _ rfl 0 rfl (cellTab _ rfl) (by omega) _ (e3) ?_; (simp only [Act.put, List.setIfInBounds_toArray, List.set_cons_succ, List.set_cons_zero]); go_big_quiet_on)) | (refine quiet_get1 _ _ rfl _ _ rfl 0 rfl (cellTab _ rfl) (by omega) _ (e2) ?_; (simp only [Act.put, List.setIfInBounds_toArray, List.set_cons_succ, List.set_cons_zero]); go_big_quiet_on) | (refine quiet_val ?_; apply Exists.intro; refine ⟨fun W => ?_, ?_⟩; (go_simp; (try simp only [tb, if_true, Bool.false_eq_true, if_false]); rfl); (simp only [Act.put, List.setIfInBounds_toArray, List.set_cons_succ, List.set_cons_zero]); go_big_quiet_on)))); (with_reducible refine wpQuiet_nil ?_); intro W' hM)
          go_wp2
          ((try simp only [Act.put, List.setIfInBounds_toArray, List.set_cons_succ, List.set_cons_zero]); refine wp_region_mem (by kernel_rfl) (by kernel_rfl) hM ?_; clear hM; (repeat (first | go_big_quiet_skip | (go_big_quiet_want; first | (refine quiet_old _ _ rfl _ _ rfl (cellTab _ rfl) (errV (a 6)) (fun W hM => (HE.out.below hM.below).vars 6 (by omega)) ?_; (simp only [Act.put, List.setIfInBounds_toArray, List.set_cons_succ, List.set_cons_zero]); go_big_quiet_on) | (refine quiet_val ?_; apply Exists.intro; refine ⟨fun W => ?_, ?_⟩; (go_simp; rfl); (simp only [Act.put, List.setIfInBounds_toArray, List.set_cons_succ, List.set_cons_zero]); go_big_quiet_on)))); (with_reducible refine wpQuiet_nil ?_); intro W' hM)
          go_wp2
          go_ret2
          exact .inr (.inl ⟨t, Hr.out, rfl, hM.skip.skip⟩)
        have tb : ((t : Int) == (B : Int)) = false := by rw [beq_eq_false_iff_ne]; omega
        have hp' : need ≤ hs m 0 := by omega
        have hw : IntKind.i64.wrap ((t : Int) + 1) = (t : Int) + 1 := IntWalk.i64_in _ (by omega)
        have ht1 : t + 1 ≤ B := by omega
        cases hgo : goS need B (fun _ => List.range n) d (dayM hs need m) (t + 1) with
        | mk o q =>
          obtain ⟨t', b⟩ := q
          have ht' : t' ≤ B := by
            have := goS_le need B (fun _ => List.range n) d (dayM hs need m) (t + 1) ht1
            rw [hgo] at this; exact this
          have Hgo := Lib.hid hgo
          have Hbd := Lib.hid (fun i hi => dayM_ok (i := i) Hb.out hd hp' hi)
          have Hp : NotPoorE (hs m 0) need := hp
          have Ht2 : NotSpentE t B := ht2
          have Htick := Lib.hid (srch_tickE need B t)
          clear hgo hp ht2
          go_wp2_with (first | (refine wpList_get1 rfl _ _ rfl _ _ rfl hM 1 rfl (cellTab _ rfl) (by omega) _ ek ?_) | (refine wpList_get1 rfl _ _ rfl _ _ rfl hM 0 rfl season_cellE (by omega) _ e0 ?_) | (go_at_call 73; (with_reducible refine (dayIn_yes bl n c N F hs hn1 hn6 hN Hf.out Hb.out need hd m hmn hp' _ (hM.ats 2 _ _ _ rfl)).mono ?_); rintro e W' ⟨bN, cN, FN, rfl, hbN, hcN, hFN, hAN, hbl⟩; have hbN2 := Nat.le_trans hM.size hbN; have hM' := (hM.freshQ hbl hAN hbN).swap; clear hM hbl hAN; have hM := hM'; clear hM'))
          ((try simp only [Act.put, List.setIfInBounds_toArray, List.set_cons_succ, List.set_cons_zero]); refine wp_region_mem (by kernel_rfl) (by kernel_rfl) hM ?_; clear hM; (repeat (first | go_big_quiet_skip | (go_big_quiet_want; first | (have _t := trivial; (refine quiet_get1 _ _ rfl _ _ rfl 0 rfl (cellTab _ rfl) (by omega) _ (e3) ?_; (simp only [Act.put, List.setIfInBounds_toArray, List.set_cons_succ, List.set_cons_zero]); go_big_quiet_on)) | (refine quiet_get1 _ _ rfl _ _ rfl 0 rfl (cellTab _ rfl) (by omega) _ (e2) ?_; (simp only [Act.put, List.setIfInBounds_toArray, List.set_cons_succ, List.set_cons_zero]); go_big_quiet_on) | (refine quiet_val ?_; apply Exists.intro; refine ⟨fun W => ?_, ?_⟩; (go_simp; (try simp only [tb, if_true, Bool.false_eq_true, if_false]); rfl); (simp only [Act.put, List.setIfInBounds_toArray, List.set_cons_succ, List.set_cons_zero]); go_big_quiet_on)))); (with_reducible refine wpQuiet_nil ?_); intro W' hM)
          have tk_s1 : True := trivial
          go_wp2_with (first | (refine wpList_get1 rfl _ _ rfl _ _ rfl hM 0 rfl (cellTab _ rfl) (by omega) _ e3 ?_) | (have _t := tk_s1; refine wpList_set1 rfl _ _ _ rfl _ _ rfl _ rfl rfl hM 0 rfl hbs (cellTab _ rfl) (by omega) ?_; intro W' hM'; clear hM tk_s1; have hM := hM'.re 0 rfl _ Htick.out; clear hM'; simp only [List.set] at hM))
          go_at_call 61
          refine (IH.out (by omega) (dayM hs need m) Hbd.out (t + 1) ht1 bN (cN * 3) cN FN (by omega) hFN ((bo, co * 1, Fo) :: (bl, N, F) :: K) _ hM).mono ?_
          rintro e W2 (⟨p, t2, b2, v, hq, rfl, hv0, hL⟩ | ⟨t2, hq, rfl, hM2⟩ | ⟨t2, hq, rfl, hM2⟩)
          · rw [Hgo.out] at hq
            simp only [Prod.mk.injEq] at hq
            obtain ⟨rfl, rfl, rfl⟩ := hq
            have Hr : Hid (r = (some (m :: p), t', false)) := Lib.hid (by rw [← hr.out, Hd.out, tryL_some Hp Ht2 Hgo.out])
            have hpl : p.length = d := goS_len need B (fun _ => List.range n) d (dayM hs need m) (t + 1) p (by rw [Hgo.out])
            clear hM
            rcases hL with ⟨rfl, hn0, hM⟩ | ⟨b, c2, F2, rfl, hbb, hnc, hF2, hM⟩
            · clear hv0
              have tk_l1 : True := trivial
              go_wp2_with (first | (have _t := tk_l1; refine wpList_lit1 rfl _ _ _ rfl (.int .i64 (m : Int)) rfl rfl _ int64s_underR int64_infoR hM ?_; intro l1 W' hl1 hM'; clear hM tk_l1; have hM := hM'; clear hM') | (go_at_call 76; (with_reducible refine (insert_none (Base.of w) _ l1 (m : Int) (fun _ => undef) _ hM).mono ?_); rintro e W' ⟨b3, c3, F3, rfl, hb3, hc3, hF30, hF3, hM'⟩; clear hM; have hM := hM'; clear hM'))
              go_ret2
              have hp0 : p = [] := List.length_eq_zero_iff.1 hn0
              subst hp0
              exact .inl ⟨[m], t', false, _, Hr.out, rfl, fun h => by simp at h, .inr ⟨b3, c3, F3, rfl, hb3, hc3, fun j hj => by
                obtain rfl : j = 0 := by simp at hj; omega
                rw [hF30]; rfl, by rw [Nat.mul_one]; exact hM.skip3E.skip3E⟩⟩
            · rw [Nat.mul_one] at hM
              have hbb2 : (Base.of w).B ≤ b := hbb
              have h12 : ∀ j, j < p.length → (F2 j).oneCell' = true := fun j hj => by rw [hF2 j (by omega)]; rfl
              have H12 := Lib.hid h12
              clear h12
              by_cases hp0 : p.length = 0
              · exact absurd (hv0 hp0) (by simp)
              have hp1 : 1 ≤ p.length := by omega
              have hpn : p.length ≤ 100000 := by omega
              have hnc2 : p.length ≤ c2 := by omega
              clear hpl
              clear hv0
              have tk_l1 : True := trivial
              go_wp2_with (first | (have _t := tk_l1; refine wpList_lit1 rfl _ _ _ rfl (.int .i64 (m : Int)) rfl rfl _ int64s_underR int64_infoR hM ?_; intro l1 W' hl1 hM'; clear hM tk_l1; have hM := hM'; clear hM') | (go_at_call 76; (with_reducible refine (insert_some (Base.of w) _ l1 b p.length c2 (m : Int) F2 hp1 hnc2 hpn hbb2 H12.out _ hM).mono ?_); rintro e W' ⟨b3, c3, F3, rfl, hb3, hc3, hF30, hF3, hM'⟩; clear hM; have hM := hM'; clear hM'))
              go_ret2
              exact .inl ⟨m :: p, t', false, _, Hr.out, rfl, fun h => by simp at h, .inr ⟨b3, c3, F3, rfl, hb3, hc3, fun j hj => by
                rw [natI_cons]
                cases j with
                | zero => rw [hF30]; rfl
                | succ j => rw [hF3 j (by simp at hj; omega), hF2 j (by simp at hj; omega), vI_consS], by rw [Nat.mul_one]; exact hM.skip3E.skip3E⟩⟩
          · rw [Hgo.out] at hq
            simp only [Prod.mk.injEq] at hq
            obtain ⟨rfl, rfl, rfl⟩ := hq
            have Hr : Hid (r = (none, t', true)) := Lib.hid (by rw [← hr.out, Hd.out, tryL_over Hp Ht2 Hgo.out])
            clear hM
            have hM := hM2
            clear hM2
            have v6 : W2.cell? ⟨6, 0, none⟩ = some (errV (a 6)) := (HE.out.below hM.below).vars 6 (by omega)
            go_wp2_with (first | (go_at_call 72; (with_reducible refine (is_yes 6 _).mono ?_); rintro e W' ⟨rfl, rfl⟩))
            go_ret2
            exact .inr (.inl ⟨t', Hr.out, rfl, hM.skip.skip⟩)
          · rw [Hgo.out] at hq
            simp only [Prod.mk.injEq] at hq
            obtain ⟨rfl, rfl, rfl⟩ := hq
            have Hr : Hid (tryL need B (goS need B (fun _ => List.range n) d) hs (ml.drop (k + 1)) t' = r) := Lib.hid (by rw [← hr.out, Hd.out, tryL_next Hp Ht2 Hgo.out])
            clear hM
            have hM := hM2
            clear hM2
            have v6 : W2.cell? ⟨6, 0, none⟩ = some (errV (a 6)) := (HE.out.below hM.below).vars 6 (by omega)
            go_wp2_with (first | (go_at_call 72; (with_reducible refine (is_no (HE.out.below hM.below) 4 6 (by omega) (by omega) (by omega)).mono ?_); rintro e W' ⟨rfl, rfl⟩))
            go_roundw
            case rel => exact ⟨k + 1, by omega, by go_num, t', ht', Hr, hM.skip⟩
            case measure => simp [intOf]; omega
      · obtain rfl : k = ml.length := by omega
        have Hr : Hid (r = (none, t, false)) := Lib.hid (by rw [← hr.out, List.drop_length]; rfl)
        go_wp2
        ((try simp only [Act.put, List.setIfInBounds_toArray, List.set_cons_succ, List.set_cons_zero]); refine wp_region_mem (by kernel_rfl) (by kernel_rfl) hM ?_; clear hM; (repeat (first | go_big_quiet_skip | (go_big_quiet_want; first | (refine quiet_old _ _ rfl _ _ rfl (cellTab _ rfl) (errV (a 4)) (fun W hM => (HE.out.below hM.below).vars 4 (by omega)) ?_; (simp only [Act.put, List.setIfInBounds_toArray, List.set_cons_succ, List.set_cons_zero]); go_big_quiet_on) | (refine quiet_val ?_; apply Exists.intro; refine ⟨fun W => ?_, ?_⟩; (go_simp; rfl); (simp only [Act.put, List.setIfInBounds_toArray, List.set_cons_succ, List.set_cons_zero]); go_big_quiet_on)))); (with_reducible refine wpQuiet_nil ?_); intro W' hM)
        go_wp2
        go_ret2
        exact .inr (.inr ⟨t, Hr.out, rfl, hM.skip⟩)
end Go.Proofs.YtbbododeglkghaaDoor

