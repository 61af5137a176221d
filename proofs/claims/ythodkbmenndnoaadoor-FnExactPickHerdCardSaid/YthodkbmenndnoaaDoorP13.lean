/-
  Several texts in one: WithFoesC, KeepH, Named, AddS, GroupsM.
-/
import Derived.Test.YthodkbmenndnoaaDoorP11
import Derived.Test.YthodkbmenndnoaaDoorP12
import Derived.Test.YthodkbmenndnoaaDoorP3
import Derived.Test.YthodkbmenndnoaaDoorP2
/-
  spec.WithFoes, impl.WithFoes by contracts.
-/
namespace Go.Proofs.YthodkbmenndnoaaDoor
open Go Go.RowKit Go.BigFrame

theorem run_herd0 (W : World) : (Instr.build 29 #[]).run Tryd.prog W = .ok (.agg (arr 3 (h3 (.slice none 0 0) (.slice none 0 0) (.slice none 0 0)))) W := by kernel_rfl
theorem wpList_herd0 {ops : Array Oper} {rest : List Oper} {o : Oper} {a : Act} {W : World} {Q : Exit → Act → World → Prop} (hgd : o.guard = none) (ho : o.op = .build 29 #[])
    (h : wpList Tryd.prog ops Q rest (a.put o.dst (.agg (arr 3 (h3 (.slice none 0 0) (.slice none 0 0) (.slice none 0 0))))) W) : wpList Tryd.prog ops Q (o :: rest) a W := by
  refine wpList_plain hgd fun K hK => ?_
  have hr := run_herd0 W
  unfold Oper.wp execOp
  simp only [ho, List.map_toArray, List.map_nil, Sem.run_bind, Sem.run_pure, hr, Result.andThen_ok]
  exact hK _ _ h
def nil3 : Nat → Value := h3 (.slice none 0 0) (.slice none 0 0) (.slice none 0 0)
theorem nil3_one (k : Nat) : (nil3 k).oneCell' = true := h3_one rfl rfl rfl k
theorem h3_zero (k : Nat) : (h3 (.slice none 0 0) (.slice none 0 0) (.slice none 0 0) (0 + k)).oneCell' = true := h3_one rfl rfl rfl _

/-- The code; the goats that come out. -/
def wfC (d : Hd) (x y : Int) : Int := if areC d x y = 0 then (if x = y then 4 else 0) else areC d x y
def wfN (d : Hd) (x y : Int) : Nat := if wfC d x y = 0 then d.n1 else 0
def wfF (d : Hd) (i k : Nat) (on : Bool) : Nat → Int := fun j => if j = k then ((putB (d.fs k).toNat i on : Nat) : Int) else if j = i then ((putB (d.fs i).toNat k on : Nat) : Int) else d.fs j
theorem wf_0 {d : Hd} {x y : Int} (h : wfC d x y = 0) : areC d x y = 0 ∧ x ≠ y := by
  unfold wfC at h
  split at h
  · rename_i h0
    refine ⟨h0, fun e => ?_⟩
    rw [if_pos e] at h
    cases h
  · contradiction

set_option maxRecDepth 100000 in
set_option maxHeartbeats 4000000 in
theorem specWithFoes_any (d : Hd) (b1 b2 b3 : Nat) (hd : FitsH d) (x y : Int) (on : Bool) (w : World) (hM0 : Mem w (hdB d b1 b2 b3) w) :
    Calls Tryd.prog 28 #[.agg (arr 3 (hdV d b1 b2 b3)), .int .i64 x, .int .i64 y, .bool on] w (GivesH (wfN d x y) (vStringS d.ss) (vInt16S d.es) (vUint16S (wfF d x.toNat y.toNat on)) (wfC d x y) w) := by
  have hM : Mem w (hdB d b1 b2 b3 ++ []) w := by rw [List.append_nil]; exact hM0
  have H0 := Lib.hid hM0
  clear hM0
  have HAC := Lib.hid (fun (bh : Nat) (a : Option Addr) (W : World) hB hG => l06Asked_any d bh b1 b2 b3 hd a 2 2 (two2 x y) (by omega) W hB hG)
  by_cases hc : wfC d x y = 0
  · obtain ⟨hc0, hxy⟩ := wf_0 hc
    obtain ⟨hOk, -, -, i, k, rfl, rfl, hi, hk⟩ := are_0 hc0
    have h14 := hOk.n
    have HC := Lib.hid (show askC d 2 (two2 (i : Int) (k : Int)) = 0 from hc0)
    have hik : i ≠ k := fun e => hxy (by rw [e])
    have z3 : ((i : Int) == (k : Int)) = false := beq_eq_false_iff_ne.2 hxy
    have hfi := hd.f i (by rw [hOk.l3]; exact hi)
    have hfk := hd.f k (by rw [hOk.l3]; exact hk)
    obtain ⟨s, hs⟩ : ∃ s : Nat, d.fs i = s := ⟨(d.fs i).toNat, by omega⟩
    obtain ⟨t, ht⟩ : ∃ t : Nat, d.fs k = t := ⟨(d.fs k).toNat, by omega⟩
    have hs2 : s < 65536 := by omega
    have ht2 : t < 65536 := by omega
    have HR := Lib.hid (show wfN d (i : Int) (k : Int) = d.n1 ∧ wfC d (i : Int) (k : Int) = 0 from ⟨by unfold wfN; rw [if_pos hc], hc⟩)
    have HF := Lib.hid (show ∀ (F : Nat → Value), (∀ j, j < d.n1 * 1 → F j = vUint16S d.fs j) → ∀ j, j < d.n1 → put2 F i k (putB s k on) (putB t i on) j = vUint16S (wfF d i k on) j from fun F hF j hj => by
      have := hF j (by omega)
      unfold put2 vUint16S wfF
      rw [hs, ht, Int.toNat_natCast, Int.toNat_natCast]
      split
      · rfl
      · split
        · rfl
        · exact this)
    have Hs := Lib.hid (And.intro hs ht)
    have HOWN := Lib.hid (fun (bh : Nat) (W : World) hB => l06Own_any d bh b1 b2 b3 (by omega) hOk.l2 hOk.l3 W hB)
    have hi14 : i < 14 := by omega
    have hk14 : k < 14 := by omega
    rw [Int.toNat_natCast, Int.toNat_natCast]
    generalize wfF d i k on = WF at HF ⊢
    clear hc hc0 hxy hOk hs ht hfi hfk
    have tk_x1 : True := trivial; have tk_r : True := trivial; have tk_l1 : True := trivial; have tk_w1 : True := trivial; have tk_o : True := trivial; have tk_s1 : True := trivial; have tk_p1 : True := trivial; have tk_g1 : True := trivial; have tk_s2 : True := trivial
    go_enter Tryd.func28, Tryd.ntmps28
    go_wp2_with (first | (have _t := tk_x1; refine wpList_box rfl _ _ rfl _ _ rfl hM ?_; intro x1 W' hx1 hM'; clear hM tk_x1; have hM := hM'; clear hM') | (have _t := tk_r; refine wpList_zero rfl _ rfl zeroHerd hM ?_; intro r W' hr hM'; clear hM tk_r; have hM := hM'; clear hM') | (have _t := tk_l1; refine wpList_lit2 rfl _ _ _ _ rfl (.int .i64 (i : Int)) (.int .i64 (k : Int)) rfl rfl rfl rfl _ int64s_underR int64_infoR hM ?_; intro l1 W' hl1 hM'; clear hM tk_l1; have hM := hM'; clear hM') | (go_at_call 62; refine (HAC.out x1 _ _ (hM.drop.drop.boxed) (lit2_ints (hM.ats 0 _ _ _ rfl) rfl)).mono ?_; rintro e W' ⟨rfl, hb'⟩; rw [HC.out]; have hM' := hM.call hb'; clear hM hb'; have hM := hM'; clear hM') | (have _t := tk_w1; go_at_call 71; refine (HOWN.out x1 _ (hM.drop.drop.boxed)).mono ?_; rintro e W' ⟨f, rfl, e1, c1, F1, e2, c2, F2, e3, c3, F3, rfl, ⟨he1, he2, he3⟩, ⟨hc1, hc2, hc3⟩, ⟨hF1, hF2, hF3⟩, hK⟩; have hM' := hM.front hK.below hK (fun i p h => by rcases i with _ | _ | _ | i <;> simp at h <;> (rw [← h]; assumption)); have HF1 := Lib.hid hF1; have HF2 := Lib.hid hF2; have HF3 := Lib.hid hF3; have He := Lib.hid (And.intro (Nat.le_trans hM.size he1) (And.intro (Nat.le_trans hM.size he2) (Nat.le_trans hM.size he3))); clear hM hK tk_w1 hF1 hF2 hF3 he1 he2 he3; have hM := hM'; clear hM'; simp only [List.cons_append, List.nil_append] at hM) | (have _t := tk_o; refine wpList_zero rfl _ rfl zeroHerd hM ?_; intro o W' ho hM'; clear hM tk_o; have hM := hM'; clear hM') | (have _t := tk_s1; refine wpList_lay rfl _ _ _ rfl _ _ rfl _ _ rfl hM 0 rfl (by assumption) (rowTab _ _ rfl) (by omega) (fun k _ => h3_one rfl rfl rfl k) ?_; intro W' hM'; have hM2 := hM'.re 0 rfl (h3 (.slice (some ⟨e1, 0, none⟩) d.n1 c1) (.slice (some ⟨e2, 0, none⟩) d.n1 c2) (.slice (some ⟨e3, 0, none⟩) d.n1 c3)) (fun k hk => by simp [lay, hk]); simp only [List.set_cons_zero] at hM2; clear hM hM' tk_s1; have hM := hM2.toFront 3 rfl; simp only [List.eraseIdx_cons_succ, List.eraseIdx_cons_zero] at hM; clear hM2) | (have _t := tk_p1; go_at_call 72; refine (l06Put_any _ _ o e3 d.n1 c3 (c3 * 1) F3 _ rfl He.out.2.2 (by omega) i k s t on hi hk hik hi14 hk14 hs2 ht2 ((HF3.out i (by omega)).trans (congrArg (Value.int .u16) Hs.out.1)) ((HF3.out k (by omega)).trans (congrArg (Value.int .u16) Hs.out.2)) _ hM).mono ?_; rintro e W' ⟨rfl, hM'⟩; clear hM tk_p1; have hM := hM'; clear hM') | (have _t := tk_g1; refine wpList_get rfl _ _ rfl _ _ rfl hM 1 rfl (rowTab _ _ rfl) (by omega) ?_; simp only [Nat.zero_add]; clear tk_g1) | (have _t := tk_s2; refine wpList_lay rfl _ _ _ rfl _ _ rfl _ _ rfl hM 5 rfl (by assumption) (rowTab _ _ rfl) (by omega) (fun k _ => h3_one rfl rfl rfl k) ?_; intro W' hM'; clear hM tk_s2; have hM := hM'; clear hM'; simp only [List.set] at hM))
    have hA1 := (hM.ats 5 _ _ _ rfl).congr (g := h3 (.slice (some ⟨e1, 0, none⟩) d.n1 c1) (.slice (some ⟨e2, 0, none⟩) d.n1 c2) (.slice (some ⟨e3, 0, none⟩) d.n1 c3)) (fun j hj => by simp [lay, hj])
    refine bodyPost_ret (results_at2 rfl _ rfl hA1 rowHerd _ rfl) rfl ?_
    rw [HR.out.1, HR.out.2]
    exact ⟨_, rfl, .inr ⟨e1, c1, c1 * 1, F1, e2, c2, c2 * 1, F2, e3, c3, c3 * 1, _, rfl, He.out, ⟨by omega, by omega, by omega⟩, ⟨fun j hj => HF1.out j (by omega), fun j hj => HF2.out j (by omega), HF.out F3 HF3.out⟩, hM.sub (fun i => [2, 3, 0].getD i 0) (fun i p h => by rcases i with _ | _ | _ | i <;> simp at h ⊢ <;> exact h) rfl⟩⟩
  · have HR := Lib.hid (show wfN d x y = 0 from by unfold wfN; rw [if_neg hc])
    rw [HR.out]
    obtain ⟨C, hC⟩ : ∃ C, wfC d x y = C := ⟨_, rfl⟩
    rw [hC] at hc ⊢
    by_cases ha : areC d x y = 0
    · unfold wfC at hC
      rw [if_pos ha] at hC
      by_cases hxy : x = y
      · subst hxy
        rw [if_pos rfl] at hC
        subst hC
        have HC := Lib.hid (show askC d 2 (two2 x x) = 0 from ha)
        clear ha hc
        have tk_x1 : True := trivial; have tk_r : True := trivial; have tk_l1 : True := trivial; have tk_s1 : True := trivial
        go_enter Tryd.func28, Tryd.ntmps28
        go_wp2_with (first | (have _t := tk_x1; refine wpList_box rfl _ _ rfl _ _ rfl hM ?_; intro x1 W' hx1 hM'; clear hM tk_x1; have hM := hM'; clear hM') | (have _t := tk_r; refine wpList_zero rfl _ rfl zeroHerd hM ?_; intro r W' hr hM'; clear hM tk_r; have hM := hM'; clear hM') | (have _t := tk_l1; refine wpList_lit2 rfl _ _ _ _ rfl (.int .i64 x) (.int .i64 x) rfl rfl rfl rfl _ int64s_underR int64_infoR hM ?_; intro l1 W' hl1 hM'; clear hM tk_l1; have hM := hM'; clear hM') | (go_at_call 62; refine (HAC.out x1 _ _ (hM.drop.drop.boxed) (lit2_ints (hM.ats 0 _ _ _ rfl) rfl)).mono ?_; rintro e W' ⟨rfl, hb'⟩; rw [HC.out]; have hM' := hM.call hb'; clear hM hb'; have hM := hM'; clear hM') | (refine wpList_herd0 rfl rfl ?_) | (have _t := tk_s1; refine wpList_lay rfl _ _ _ rfl _ _ rfl _ _ rfl hM 1 rfl (by assumption) (rowTab _ _ rfl) (by omega) (fun k _ => nil3_one k) ?_; intro W' hM'; clear hM tk_s1; have hM := hM'; clear hM'; simp only [List.set] at hM))
        have hA1 := (hM.ats 1 _ _ _ rfl).congr (g := nil3) (fun j hj => by simp [lay, hj, nil3])
        exact bodyPost_ret (results_at2 rfl _ rfl hA1 rowHerd _ rfl) rfl (GivesH.none hM.below rfl rfl)
      · rw [if_neg hxy] at hC
        exact absurd hC.symm hc
    · unfold wfC at hC
      rw [if_neg ha] at hC
      have HC := Lib.hid (show askC d 2 (two2 x y) = C from hC)
      have z1 : (C != 0) = true := bne_iff_ne.2 hc
      have z2 : (C == 0) = false := beq_eq_false_iff_ne.2 hc
      clear ha hc hC
      have tk_x1 : True := trivial; have tk_r : True := trivial; have tk_l1 : True := trivial; have tk_s1 : True := trivial
      go_enter Tryd.func28, Tryd.ntmps28
      go_wp2_with (first | (have _t := tk_x1; refine wpList_box rfl _ _ rfl _ _ rfl hM ?_; intro x1 W' hx1 hM'; clear hM tk_x1; have hM := hM'; clear hM') | (have _t := tk_r; refine wpList_zero rfl _ rfl zeroHerd hM ?_; intro r W' hr hM'; clear hM tk_r; have hM := hM'; clear hM') | (have _t := tk_l1; refine wpList_lit2 rfl _ _ _ _ rfl (.int .i64 x) (.int .i64 y) rfl rfl rfl rfl _ int64s_underR int64_infoR hM ?_; intro l1 W' hl1 hM'; clear hM tk_l1; have hM := hM'; clear hM') | (go_at_call 62; refine (HAC.out x1 _ _ (hM.drop.drop.boxed) (lit2_ints (hM.ats 0 _ _ _ rfl) rfl)).mono ?_; rintro e W' ⟨rfl, hb'⟩; rw [HC.out]; have hM' := hM.call hb'; clear hM hb'; have hM := hM'; clear hM') | (refine wpList_herd0 rfl rfl ?_) | (have _t := tk_s1; refine wpList_lay rfl _ _ _ rfl _ _ rfl _ _ rfl hM 1 rfl (by assumption) (rowTab _ _ rfl) (by omega) (fun k _ => nil3_one k) ?_; intro W' hM'; clear hM tk_s1; have hM := hM'; clear hM'; simp only [List.set] at hM))
      have hA1 := (hM.ats 1 _ _ _ rfl).congr (g := nil3) (fun j hj => by simp [lay, hj, nil3])
      exact bodyPost_ret (results_at2 rfl _ rfl hA1 rowHerd _ rfl) rfl (GivesH.none hM.below rfl rfl)
/-- The herd that comes out. -/
def wfD (d : Hd) (i k : Nat) (on : Bool) : Hd := ⟨d.n1, d.n2, d.n3, d.ss, d.es, wfF d i k on⟩
theorem sMem_at (d : Hd) (i : Nat) : sMem d (i * 3 + 2) = .int .u16 (d.fs i) := by rw [sMem_row d i 2 (by omega)]; rfl
theorem wfD_sMem {d : Hd} {i k : Nat} {on : Bool} {s t n : Nat} (hik : i ≠ k) (hs : d.fs i = s) (ht : d.fs k = t) (F : Nat → Value) (hF : ∀ j, j < n * 3 → F j = sMem d j) : ∀ j, j < n * 3 → upd (upd F (i * 3 + 2) (.int .u16 ((putB s k on : Nat) : Int))) (k * 3 + 2) (.int .u16 ((putB t i on : Nat) : Int)) j = sMem (wfD d i k on) j := fun j hj => by
  have h := hF j hj
  have e1 : (wfD d i k on).ss = d.ss := rfl
  have e2 : (wfD d i k on).es = d.es := rfl
  have e3 : (wfD d i k on).fs = wfF d i k on := rfl
  unfold sMem gMem mem3 at *
  rw [e1, e2, e3]
  simp only [upd]
  unfold wfF
  rw [hs, ht, Int.toNat_natCast, Int.toNat_natCast]
  by_cases h2 : j % 3 = 2
  · by_cases hk : j = k * 3 + 2
    · subst hk
      rw [if_pos rfl, if_neg (by omega), if_neg (by omega), if_pos (by omega)]
    · rw [if_neg hk]
      by_cases hi : j = i * 3 + 2
      · subst hi
        rw [if_pos rfl, if_neg (by omega), if_neg (by omega), if_neg (by omega), if_pos (by omega)]
      · rw [if_neg hi, h, if_neg (by omega), if_neg (by omega), if_neg (by omega), if_neg (by omega), if_neg (by omega), if_neg (by omega)]
  · rw [if_neg (by omega), if_neg (by omega), h]
    by_cases h0 : j % 3 = 0
    · rw [if_pos h0, if_pos h0]
    · rw [if_neg h0, if_neg h0, if_pos (by omega), if_pos (by omega)]

end Go.Proofs.YthodkbmenndnoaaDoor

/-
  PLAIN: a new herd's lists kept beside other blocks.
-/
namespace Go.Proofs.YthodkbmenndnoaaDoor
open Go Go.RowKit

theorem Mem.last3 {b0 : Base} {L : Blocks} {p q r : Nat × Nat × (Nat → Value)} {W : World} (h : Mem b0 (L ++ [p, q, r]) W) : Mem b0 [p, q, r] W :=
  h.sub (fun i => L.length + i) (fun i x hx => by
    rw [List.getElem?_append_right (by omega), Nat.add_sub_cancel_left]; exact hx) (by
    simp only [List.length_cons, List.length_nil, List.range_succ_eq_map, List.range_zero, List.map_nil, List.map_cons, List.all_cons, List.all_nil]
    simp)
theorem NewH.keep {n : Nat} {R1 R2 R3 : Nat → Value} {b0 : Base} {L : Blocks} {X : World} {f : Nat → Value} {X' : World} (hM : Mem b0 L X) (h : NewH n R1 R2 R3 X f X') :
    ∃ K, Mem b0 (L ++ K) X' ∧ ∀ (w : World) (L' : Blocks) (W : World), w.heap.size ≤ X.heap.size → Mem (Base.of w) (L' ++ K) W → NewH n R1 R2 R3 w f W := by
  rcases h with ⟨h1, h2, h3⟩ | ⟨b1, c1, N1, F1, b2, c2, N2, F2, b3, c3, N3, F3, h, ⟨g1, g2, g3⟩, hN, hF, hK⟩
  · exact ⟨[], by rw [List.append_nil]; exact hM.call h3, fun w L' W _ hW => .inl ⟨h1, h2, hW.below⟩⟩
  · exact ⟨_, hM.fresh3 hK.below hK g1 g2 g3, fun w L' W hle hW => .inr ⟨b1, c1, N1, F1, b2, c2, N2, F2, b3, c3, N3, F3, h, ⟨Nat.le_trans hle g1, Nat.le_trans hle g2, Nat.le_trans hle g3⟩, hN, hF, hW.last3⟩⟩
end Go.Proofs.YthodkbmenndnoaaDoor

/-
  spec.l06Named, impl.flock.isNamed by contracts.
-/
namespace Go.Proofs.YthodkbmenndnoaaDoor
open Go Go.RowKit Go.BigFrame Go.Maps

section
variable {P : Program} {ops : Array Oper} {rest : List Oper} {o : Oper} {a : Act} {W : World} {Q : Exit → Act → World → Prop}
variable {K : Type} {kv : K → Value} {ok : K → Prop} {ks : List K} {f : K → Value} {kt et : TypeId} {m : Nat}
theorem wpList_lookY [DecidableEq K] (hgd : o.guard = none) (t : TypeId) (x y : Operand) (ho : o.op = .lookup t x y true) (hx : a.eval x = .map (some m)) (k : K) (hy : a.eval y = kv k)
    (T : KeyTold P kt kv ok) (ht : P.underlying t = some (.map kt et)) (z : Value) (hz : ∀ W, (zeroValue et).run P W = .ok z W) (hm : W.heap[m]? = some (mapO kv ks f)) (hks : ∀ k, k ∈ ks → ok k) (hk : ok k) (hin : k ∈ ks)
    (h : wpList P ops Q rest (a.put o.dst (.tuple #[f k, .bool true])) W) : wpList P ops Q (o :: rest) a W := by
  refine wpList_lookup hgd t x y true ho hx k hy T ht z hz hm hks hk ?_
  rw [if_pos rfl, if_pos hin, decide_eq_true hin]; exact h
theorem wpList_lookN [DecidableEq K] (hgd : o.guard = none) (t : TypeId) (x y : Operand) (ho : o.op = .lookup t x y true) (hx : a.eval x = .map (some m)) (k : K) (hy : a.eval y = kv k)
    (T : KeyTold P kt kv ok) (ht : P.underlying t = some (.map kt et)) (z : Value) (hz : ∀ W, (zeroValue et).run P W = .ok z W) (hm : W.heap[m]? = some (mapO kv ks f)) (hks : ∀ k, k ∈ ks → ok k) (hk : ok k) (hin : k ∉ ks)
    (h : wpList P ops Q rest (a.put o.dst (.tuple #[z, .bool false])) W) : wpList P ops Q (o :: rest) a W := by
  refine wpList_lookup hgd t x y true ho hx k hy T ht z hz hm hks hk ?_
  rw [if_pos rfl, if_neg hin, decide_eq_false hin]; exact h
end
/-- Has the herd a goat with this name? -/
def inK {K : Type} [DecidableEq K] (ks : List K) (k : K) : Bool := decide (k ∈ ks)
theorem inK_iff {K : Type} [DecidableEq K] {ks : List K} {k : K} : inK ks k = true ↔ k ∈ ks := decide_eq_true_iff
theorem inK_no {K : Type} [DecidableEq K] {ks : List K} {k : K} (h : k ∉ ks) : inK ks k = false := decide_eq_false h
def nmdB (d : Hd) (s : ByteArray) : Bool := inK (keysU d d.n1) s
theorem nmdB_iff {d : Hd} {s : ByteArray} : nmdB d s = true ↔ ∃ i, i < d.n1 ∧ d.ss i = s := by unfold nmdB; rw [inK_iff, keysU_mem]
theorem keysU_size {d : Hd} (hd : FitsH d) : ∀ s, s ∈ keysU d d.n1 → s.size ≤ maxLen := fun s hs => by
  obtain ⟨i, hi, rfl⟩ := keysU_mem.1 hs
  exact hd.s i hi
set_option maxRecDepth 100000 in
set_option maxHeartbeats 2000000 in
theorem isNamed_any (d : Hd) (hd : FitsH d) (ma : Option Addr) (n c m : Nat) (s : ByteArray) (hs : s.size ≤ maxLen) (w : World) (hO : w.heap[m]? = some (mapO kvS (keysU d d.n1) (putsU d d.n1))) :
    Calls Tryd.prog 83 #[.agg (arr 2 (flkV ma n c m)), .string s] w fun e w' => e = .returned (.bool (nmdB d s)) ∧ Below w.heap.size w w' := by
  have hM := (Mem.nil w).withO (o := mapO kvS (keysU d d.n1) (putsU d d.n1)) rfl hO
  have HK := Lib.hid (keysU_size hd)
  have Hk : kvS s = .string s := rfl
  have g1 : flkV ma n c m 1 = .map (some m) := rfl
  clear hO
  by_cases hin : s ∈ keysU d d.n1
  · have HR := Lib.hid (show nmdB d s = true from inK_iff.2 hin)
    have HIN := Lib.hid hin
    clear hin
    have tk_x1 : True := trivial
    go_enter Tryd.func83, Tryd.ntmps83
    go_wp2_with (first | (have _t := tk_x1; refine wpList_box rfl _ _ rfl _ _ rfl hM ?_; intro x1 W' hx1 hM'; clear hM tk_x1; have hM := hM'; clear hM') | (refine wpList_get1 rfl _ _ rfl _ _ rfl hM 0 rfl (cellTab _ rfl) (by omega) _ g1 ?_) | (refine wpList_lookY rfl _ _ _ rfl rfl s rfl nameT puts_under .nilFunc (fun W => puts_zero W) hM.good.2 HK.out hs HIN.out ?_))
    go_ret
    rw [HR.out]
    exact ⟨rfl, hM.good.1⟩
  · have HR := Lib.hid (show nmdB d s = false from inK_no hin)
    have HIN := Lib.hid hin
    clear hin
    have tk_x1 : True := trivial
    go_enter Tryd.func83, Tryd.ntmps83
    go_wp2_with (first | (have _t := tk_x1; refine wpList_box rfl _ _ rfl _ _ rfl hM ?_; intro x1 W' hx1 hM'; clear hM tk_x1; have hM := hM'; clear hM') | (refine wpList_get1 rfl _ _ rfl _ _ rfl hM 0 rfl (cellTab _ rfl) (by omega) _ g1 ?_) | (refine wpList_lookN rfl _ _ _ rfl rfl s rfl nameT puts_under .nilFunc (fun W => puts_zero W) hM.good.2 HK.out hs HIN.out ?_))
    go_ret
    rw [HR.out]
    exact ⟨rfl, hM.good.1⟩
set_option maxRecDepth 100000 in
set_option maxHeartbeats 2000000 in
theorem l06Named_any (d : Hd) (bh b1 b2 b3 : Nat) (hn : d.n1 ≤ 1048576) (s : ByteArray) (w : World) (hM0 : Mem w ((bh, 3, hdV d b1 b2 b3) :: hdB d b1 b2 b3) w) :
    Calls Tryd.prog 80 #[.pointer (some ⟨bh, 0, none⟩), .string s] w fun e w' => e = .returned (.bool (nmdB d s)) ∧ Below w.heap.size w w' := by
  have a1 : hdV d b1 b2 b3 0 = .slice (some ⟨b1, 0, none⟩) d.n1 d.n1 := rfl
  have hM := hM0
  simp only [hdB] at hM
  clear hM0
  have HY := Lib.hid (fun (k : Nat) (hk : k < d.n1) (e : d.ss k = s) => show nmdB d s = true from nmdB_iff.2 ⟨k, hk, e⟩)
  have HN := Lib.hid (fun (h : ∀ j, j < d.n1 → d.ss j ≠ s) => show nmdB d s = false from by
    cases e : nmdB d s with
    | false => rfl
    | true => obtain ⟨i, hi, e⟩ := nmdB_iff.1 e; exact absurd e (h i hi))
  generalize nmdB d s = B at HY HN ⊢
  generalize hdV d b1 b2 b3 = hv at a1 hM
  obtain ⟨n, e⟩ : ∃ n, d.n1 = n := ⟨_, rfl⟩
  rw [e] at hn a1 hM HY HN
  clear e
  go_enter Tryd.func80, Tryd.ntmps80
  go_wp2
  go_loopw [5] (fun v wr => ∃ k : Nat, k ≤ n ∧ v = .int .i64 k ∧ Hid (∀ j, j < k → d.ss j ≠ s) ∧ Mem w [(bh, 3, hv), (b1, n, vStringS d.ss), (b2, d.n2, vInt16S d.es), (b3, d.n3, vUint16S d.fs)] wr) (fun v _ => n - (intOf v).toNat)
  case atStart => exact ⟨0, by omega, rfl, Lib.hid (fun j h => absurd h (by omega)), hM⟩
  case round =>
    clear hM
    obtain ⟨k, hk, rfl, hall, hM⟩ := hrel
    by_cases hlt : k < n
    · have l2 : (k : Int) < n := by omega
      have e1 : vStringS d.ss k = .string (d.ss k) := rfl
      have HK := Lib.hid (HY.out k hlt)
      have HS := Lib.hid (fun (h : d.ss k ≠ s) (j : Nat) (hj : j < k + 1) => show d.ss j ≠ s from by
        rcases Nat.lt_succ_iff_lt_or_eq.1 hj with h' | rfl
        · exact hall.out j h'
        · exact h)
      obtain ⟨x, hx⟩ : ∃ x, d.ss k = x := ⟨_, rfl⟩
      rw [hx] at e1 HK HS
      clear hx
      by_cases hxs : x = s
      · have HZ := Lib.hid (HK.out hxs)
        clear HK HS
        subst hxs
        go_wp2_with (first | (refine wpList_get1 rfl _ _ rfl _ _ rfl hM 0 rfl (cellTab _ rfl) (by omega) _ a1 ?_) | (refine wpList_get1 rfl _ _ rfl _ _ rfl hM 1 rfl (cellTab _ rfl) (by omega) _ e1 ?_))
        go_ret
        rw [HZ.out]
        exact ⟨rfl, hM.below⟩
      · have hne := toList_ne hxs
        have HZ := Lib.hid (HS.out hxs)
        clear HK HS hxs
        go_wp2_with (first | (refine wpList_get1 rfl _ _ rfl _ _ rfl hM 0 rfl (cellTab _ rfl) (by omega) _ a1 ?_) | (refine wpList_get1 rfl _ _ rfl _ _ rfl hM 1 rfl (cellTab _ rfl) (by omega) _ e1 ?_))
        go_roundw
        case rel => exact ⟨k + 1, by omega, by go_num, HZ, hM⟩
        case measure => simp [intOf]; omega
    · obtain rfl : k = n := by omega
      have HZ := Lib.hid (HN.out hall.out)
      go_wp2_with (first | (refine wpList_get1 rfl _ _ rfl _ _ rfl hM 0 rfl (cellTab _ rfl) (by omega) _ a1 ?_))
      go_ret
      rw [HZ.out]
      exact ⟨rfl, hM.below⟩
end Go.Proofs.YthodkbmenndnoaaDoor

/-
  spec.AddToHerd by contract.
-/
namespace Go.Proofs.YthodkbmenndnoaaDoor
open Go Go.RowKit Go.BigFrame

/-- The code; the herd that comes out. -/
def adC (d : Hd) (s : ByteArray) (e : Int) : Int := if herdB d = true then (if inB 0 100 e = true then (if (!nameB s || nmdB d s) = true then 4 else if d.n1 = 14 then 3 else 0) else 2) else 1
def adN (d : Hd) (s : ByteArray) (e : Int) : Nat := if adC d s e = 0 then d.n1 + 1 else 0
def adD (d : Hd) (s : ByteArray) (e : Int) : Hd := ⟨d.n1 + 1, d.n1 + 1, d.n1 + 1, fun j => if j = d.n1 then s else d.ss j, fun j => if j = d.n1 then e else d.es j, fun j => if j = d.n1 then 0 else d.fs j⟩
theorem ad_0 {d : Hd} {s : ByteArray} {e : Int} (h : adC d s e = 0) : HerdOk d ∧ inB 0 100 e = true ∧ nameB s = true ∧ nmdB d s = false ∧ d.n1 ≠ 14 := by
  unfold adC at h
  split at h
  · rename_i h1
    split at h
    · rename_i h2
      split at h
      · cases h
      · rename_i h3
        split at h
        · cases h
        · rename_i h4
          refine ⟨herdB_iff.1 h1, h2, ?_, ?_, h4⟩
          · cases e1 : nameB s with
            | true => rfl
            | false => simp [e1] at h3
          · cases e1 : nmdB d s with
            | false => rfl
            | true => simp [e1] at h3
    · cases h
  · cases h
theorem in_i16 {e : Int} (h : inB 0 100 e = true) : IntKind.i16.wrap e = e := IntWalk.i16_in _ (by unfold inB at h; simp at h; omega)
theorem put_new {α : Type} {n : Nat} {f : Nat → α} {x : α} {v : α → Value} {F : Nat → Value} (hF : ∀ j, j < n * 1 → F j = v (f j)) : ∀ j, j < n * 1 → F j = v (if j = n then x else f j) := fun j hj => by
  rw [if_neg (by omega)]; exact hF j hj

set_option maxRecDepth 100000 in
set_option maxHeartbeats 4000000 in
theorem specAddToHerd_any (d : Hd) (b1 b2 b3 : Nat) (hd : FitsH d) (s : ByteArray) (hs : s.size ≤ maxLen) (e : Int) (w : World) (hM0 : Mem w (hdB d b1 b2 b3) w) :
    Calls Tryd.prog 31 #[.agg (arr 3 (hdV d b1 b2 b3)), .string s, .int .i64 e] w (GivesH (adN d s e) (vStringS (adD d s e).ss) (vInt16S (adD d s e).es) (vUint16S (adD d s e).fs) (adC d s e) w) := by
  have hM : Mem w (hdB d b1 b2 b3 ++ []) w := by rw [List.append_nil]; exact hM0
  clear hM0
  have HOK := Lib.hid (fun (bh : Nat) (W : World) hB => l06Ok_any d bh b1 b2 b3 hd W hB)
  by_cases hc : adC d s e = 0
  · obtain ⟨hOk, hin, hnm, hnd, h14⟩ := ad_0 hc
    have h14' := hOk.n
    have HR := Lib.hid (show adN d s e = d.n1 + 1 ∧ adC d s e = 0 from ⟨by unfold adN; rw [if_pos hc], hc⟩)
    have HB := Lib.hid (herdB_iff.2 hOk)
    have HI := Lib.hid hin
    have HNm := Lib.hid hnm
    have HNd := Lib.hid hnd
    have HND := Lib.hid (fun (bh : Nat) (W : World) hB => l06Named_any d bh b1 b2 b3 (by omega) s W hB)
    have HOWN := Lib.hid (fun (bh : Nat) (W : World) hB => l06Own_any d bh b1 b2 b3 (by omega) hOk.l2 hOk.l3 W hB)
    have HP := Lib.hid (show (∀ F : Nat → Value, (∀ j, j < d.n1 * 1 → F j = vStringS d.ss j) → ∀ j, j < d.n1 * 1 → F j = vStringS (adD d s e).ss j) ∧ (∀ F : Nat → Value, (∀ j, j < d.n1 * 1 → F j = vInt16S d.es j) → ∀ j, j < d.n1 * 1 → F j = vInt16S (adD d s e).es j) ∧ ∀ F : Nat → Value, (∀ j, j < d.n1 * 1 → F j = vUint16S d.fs j) → ∀ j, j < d.n1 * 1 → F j = vUint16S (adD d s e).fs j from
      ⟨fun F h => put_new (v := fun y => .string y) h, fun F h => put_new (v := fun y => .int .i16 y) h, fun F h => put_new (v := fun y => .int .u16 y) h⟩)
    have HV0 := Lib.hid (show ∀ j, j < 1 → Value.string s = vStringS (adD d s e).ss (d.n1 * 1 + j) from fun j hj => by
      rw [show d.n1 * 1 + j = d.n1 by omega]; simp [vStringS, adD])
    have HV1 := Lib.hid (show ∀ j, j < 1 → Value.int .i16 e = vInt16S (adD d s e).es (d.n1 * 1 + j) from fun j hj => by
      rw [show d.n1 * 1 + j = d.n1 by omega]; simp [vInt16S, adD])
    have HV2 := Lib.hid (show ∀ j, j < 1 → Value.int .u16 0 = vUint16S (adD d s e).fs (d.n1 * 1 + j) from fun j hj => by
      rw [show d.n1 * 1 + j = d.n1 by omega]; simp [vUint16S, adD])
    have ew := in_i16 hin
    generalize vStringS (adD d s e).ss = R1 at HP HV0 ⊢
    generalize vInt16S (adD d s e).es = R2 at HP HV1 ⊢
    generalize vUint16S (adD d s e).fs = R3 at HP HV2 ⊢
    have a1 : hdV d b1 b2 b3 0 = .slice (some ⟨b1, 0, none⟩) d.n1 d.n1 := rfl
    clear hc hOk hin hnm hnd
    obtain ⟨n, hn⟩ : ∃ n, d.n1 = n := ⟨_, rfl⟩
    rw [hn] at HR HOWN HP HV0 HV1 HV2 h14 h14' a1
    have hn1 : n ≤ 1048576 := by omega
    have z14 : ((n : Int) == 14) = false := beq_eq_false_iff_ne.2 (by omega)
    have y14 : ¬ (n : Int) = 14 := by omega
    clear hn h14
    have tk_x1 : True := trivial; have tk_r : True := trivial; have tk_ln : True := trivial; have tk_w1 : True := trivial; have tk_o : True := trivial; have tk_s1 : True := trivial; have tk_ga0 : True := trivial; have tk_l0 : True := trivial; have tk_p0 : True := trivial; have tk_st0 : True := trivial; have tk_ga1 : True := trivial; have tk_l1 : True := trivial; have tk_p1 : True := trivial; have tk_st1 : True := trivial; have tk_ga2 : True := trivial; have tk_l2 : True := trivial; have tk_p2 : True := trivial; have tk_st2 : True := trivial; have tk_go : True := trivial; have tk_s2 : True := trivial
    go_enter Tryd.func31, Tryd.ntmps31
    go_wp2_with (first | (have _t := tk_x1; refine wpList_box rfl _ _ rfl _ _ rfl hM ?_; intro x1 W' hx1 hM'; clear hM tk_x1; have hM := hM'; clear hM') | (have _t := tk_r; refine wpList_zero rfl _ rfl zeroHerd hM ?_; intro r W' hr hM'; clear hM tk_r; have hM := hM'; clear hM') | (go_at_call 51; refine (HOK.out x1 _ (hM.drop.boxed)).mono ?_; rintro e W' ⟨rfl, hb'⟩; rw [HB.out]; have hM' := hM.call hb'; clear hM hb'; have hM := hM'; clear hM') | (go_at_call 78; refine (l00In_any e 0 100 _).mono ?_; rintro e W' ⟨rfl, hb'⟩; rw [HI.out]; have hM' := hM.call hb'; clear hM hb'; have hM := hM'; clear hM') | (go_at_call 79; refine (l06Name_any s hs _).mono ?_; rintro e W' ⟨rfl, hb'⟩; rw [HNm.out]; have hM' := hM.call hb'; clear hM hb'; have hM := hM'; clear hM') | (go_at_call 80; refine (HND.out x1 _ (hM.drop.boxed)).mono ?_; rintro e W' ⟨rfl, hb'⟩; rw [HNd.out]; have hM' := hM.call hb'; clear hM hb'; have hM := hM'; clear hM') | (have _t := tk_ln; refine wpList_get1 rfl _ _ rfl _ _ rfl hM 1 rfl (cellTab _ rfl) (by omega) _ a1 ?_; clear tk_ln) | (have _t := tk_w1; go_at_call 71; refine (HOWN.out x1 _ (hM.drop.boxed)).mono ?_; rintro e W' ⟨f, rfl, e1, c1, F1, e2, c2, F2, e3, c3, F3, rfl, ⟨he1, he2, he3⟩, ⟨hc1, hc2, hc3⟩, ⟨hF1, hF2, hF3⟩, hK⟩; have hM' := hM.front hK.below hK (fun i p h => by rcases i with _ | _ | _ | i <;> simp at h <;> (rw [← h]; assumption)); have Hf0 := Lib.hid (HP.out.1 F1 hF1); have Hf1 := Lib.hid (HP.out.2.1 F2 hF2); have Hf2 := Lib.hid (HP.out.2.2 F3 hF3); have He := Lib.hid (And.intro (Nat.le_trans hM.size he1) (And.intro (Nat.le_trans hM.size he2) (Nat.le_trans hM.size he3))); clear hM hK tk_w1 hF1 hF2 hF3 he1 he2 he3; have hM := hM'; clear hM'; simp only [List.cons_append, List.nil_append] at hM) | (have _t := tk_o; refine wpList_zero rfl _ rfl zeroHerd hM ?_; intro o W' ho hM'; clear hM tk_o; have hM := hM'; clear hM') | (have _t := tk_s1; refine wpList_lay rfl _ _ _ rfl _ _ rfl _ _ rfl hM 0 rfl ho (rowTab _ _ rfl) (by omega) (fun k _ => h3_one rfl rfl rfl k) ?_; intro W' hM'; have hM2 := hM'.re 0 rfl (h3 (.slice (some ⟨e1, 0, none⟩) n c1) (.slice (some ⟨e2, 0, none⟩) n c2) (.slice (some ⟨e3, 0, none⟩) n c3)) (fun k hk => by simp [lay, hk]); simp only [List.set_cons_zero] at hM2; clear hM hM' tk_s1; have hM := hM2; clear hM2) | (have _t := tk_ga0; refine wpList_get1 rfl _ _ rfl _ _ rfl hM 0 rfl (cellTab _ rfl) (by omega) (.slice (some ⟨e1, 0, none⟩) n c1) rfl ?_; clear tk_ga0) | (have _t := tk_l0; have hM0 := hM.toFront 1 rfl; simp only [List.eraseIdx_cons_succ, List.eraseIdx_cons_zero] at hM0; clear hM; have hM := hM0; clear hM0; refine wpList_lit1 rfl _ _ _ rfl (.string s) rfl rfl _ str_under str_infoR hM ?_; intro l0 W' hl0 hM'; clear hM tk_l0; have hM := hM'; clear hM') | (have _t := tk_p0; refine wpList_push1 rfl _ _ _ rfl _ 1 _ _ str_under infoStringS rfl (by omega) _ _ _ _ rfl He.out.1 hc1 hn1 _ _ rfl cst_one hM (R1) Hf0.out HV0.out ?_; intro g0 i0 G0 W' hg0 hi0 hG0 hM'; have HG0 := Lib.hid hG0; clear hM tk_p0 hG0; have hM := hM'; clear hM') | (have _t := tk_st0; refine wpList_set1 rfl _ _ _ rfl _ _ rfl _ rfl rfl hM 1 rfl ho (cellTab _ rfl) (by omega) ?_; intro W' hM'; have hM2 := hM'.re 1 rfl (h3 (.slice (some ⟨g0, 0, none⟩) (n + 1) i0) (.slice (some ⟨e2, 0, none⟩) n c2) (.slice (some ⟨e3, 0, none⟩) n c3)) (h3_upd.1); simp only [List.set_cons_succ, List.set_cons_zero] at hM2; clear hM hM' tk_st0; have hM := hM2; clear hM2) | (have _t := tk_ga1; refine wpList_get1 rfl _ _ rfl _ _ rfl hM 1 rfl (cellTab _ rfl) (by omega) (.slice (some ⟨e2, 0, none⟩) n c2) rfl ?_; clear tk_ga1) | (have _t := tk_l1; have hM0 := hM.toFront 2 rfl; simp only [List.eraseIdx_cons_succ, List.eraseIdx_cons_zero] at hM0; clear hM; have hM := hM0; clear hM0; refine wpList_lit1 rfl _ _ _ rfl (.int .i16 e) rfl rfl _ i16_under i16_infoR hM ?_; intro l1 W' hl1 hM'; clear hM tk_l1; have hM := hM'; clear hM') | (have _t := tk_p1; refine wpList_push1 rfl _ _ _ rfl _ 1 _ _ i16_under infoInt16S rfl (by omega) _ _ _ _ rfl He.out.2.1 hc2 hn1 _ _ rfl cst_one hM (R2) Hf1.out HV1.out ?_; intro g1 i1 G1 W' hg1 hi1 hG1 hM'; have HG1 := Lib.hid hG1; clear hM tk_p1 hG1; have hM := hM'; clear hM') | (have _t := tk_st1; refine wpList_set1 rfl _ _ _ rfl _ _ rfl _ rfl rfl hM 2 rfl ho (cellTab _ rfl) (by omega) ?_; intro W' hM'; have hM2 := hM'.re 2 rfl (h3 (.slice (some ⟨g0, 0, none⟩) (n + 1) i0) (.slice (some ⟨g1, 0, none⟩) (n + 1) i1) (.slice (some ⟨e3, 0, none⟩) n c3)) (h3_upd.2.1); simp only [List.set_cons_succ, List.set_cons_zero] at hM2; clear hM hM' tk_st1; have hM := hM2; clear hM2) | (have _t := tk_ga2; refine wpList_get1 rfl _ _ rfl _ _ rfl hM 2 rfl (cellTab _ rfl) (by omega) (.slice (some ⟨e3, 0, none⟩) n c3) rfl ?_; clear tk_ga2) | (have _t := tk_l2; have hM0 := hM.toFront 3 rfl; simp only [List.eraseIdx_cons_succ, List.eraseIdx_cons_zero] at hM0; clear hM; have hM := hM0; clear hM0; refine wpList_lit1 rfl _ _ _ rfl (.int .u16 0) rfl rfl _ u16_under u16_infoR hM ?_; intro l2 W' hl2 hM'; clear hM tk_l2; have hM := hM'; clear hM') | (have _t := tk_p2; refine wpList_push1 rfl _ _ _ rfl _ 1 _ _ u16_under infoUint16S rfl (by omega) _ _ _ _ rfl He.out.2.2 hc3 hn1 _ _ rfl cst_one hM (R3) Hf2.out HV2.out ?_; intro g2 i2 G2 W' hg2 hi2 hG2 hM'; have HG2 := Lib.hid hG2; clear hM tk_p2 hG2; have hM := hM'; clear hM') | (have _t := tk_st2; refine wpList_set1 rfl _ _ _ rfl _ _ rfl _ rfl rfl hM 3 rfl ho (cellTab _ rfl) (by omega) ?_; intro W' hM'; have hM2 := hM'.re 3 rfl (h3 (.slice (some ⟨g0, 0, none⟩) (n + 1) i0) (.slice (some ⟨g1, 0, none⟩) (n + 1) i1) (.slice (some ⟨g2, 0, none⟩) (n + 1) i2)) (h3_upd.2.2); simp only [List.set_cons_succ, List.set_cons_zero] at hM2; clear hM hM' tk_st2; have hM := hM2; clear hM2) | (have _t := tk_go; refine wpList_get rfl _ _ rfl _ _ rfl hM 3 rfl (rowTab _ _ rfl) (by omega) ?_; simp only [Nat.zero_add]; clear tk_go) | (have _t := tk_s2; refine wpList_lay rfl _ _ _ rfl _ _ rfl _ _ rfl hM 4 rfl (by assumption) (rowTab _ _ rfl) (by omega) (fun k _ => h3_one rfl rfl rfl k) ?_; intro W' hM'; clear hM tk_s2; have hM := hM'; clear hM'; simp only [List.set] at hM))
    have hA1 := (hM.ats 4 _ _ _ rfl).congr (g := h3 (.slice (some ⟨g0, 0, none⟩) (n + 1) i0) (.slice (some ⟨g1, 0, none⟩) (n + 1) i1) (.slice (some ⟨g2, 0, none⟩) (n + 1) i2)) (fun j hj => by simp [lay, hj])
    refine bodyPost_ret (results_at2 rfl _ rfl hA1 rowHerd _ rfl) rfl ?_
    rw [HR.out.1, HR.out.2]
    exact ⟨_, rfl, .inr ⟨g0, i0, i0 * 1, G0, g1, i1, i1 * 1, G1, g2, i2, i2 * 1, G2, rfl, ⟨hg0, hg1, hg2⟩, ⟨by omega, by omega, by omega⟩, ⟨fun j hj => HG0.out j (by omega), fun j hj => HG1.out j (by omega), fun j hj => HG2.out j (by omega)⟩, hM.sub (fun i => [2, 1, 0].getD i 0) (fun i p h => by rcases i with _ | _ | _ | i <;> simp at h ⊢ <;> exact h) rfl⟩⟩
  · have HR := Lib.hid (show adN d s e = 0 from by unfold adN; rw [if_neg hc])
    rw [HR.out]
    unfold adC at hc ⊢
    cases hB : herdB d
    · have HB := Lib.hid hB
      clear hc hB
      have tk_x1 : True := trivial; have tk_r : True := trivial; have tk_s2 : True := trivial
      go_enter Tryd.func31, Tryd.ntmps31
      go_wp2_with (first | (have _t := tk_x1; refine wpList_box rfl _ _ rfl _ _ rfl hM ?_; intro x1 W' hx1 hM'; clear hM tk_x1; have hM := hM'; clear hM') | (have _t := tk_r; refine wpList_zero rfl _ rfl zeroHerd hM ?_; intro r W' hr hM'; clear hM tk_r; have hM := hM'; clear hM') | (go_at_call 51; refine (HOK.out x1 _ (hM.drop.boxed)).mono ?_; rintro e W' ⟨rfl, hb'⟩; rw [HB.out]; have hM' := hM.call hb'; clear hM hb'; have hM := hM'; clear hM') | (refine wpList_herd0 rfl rfl ?_) | (have _t := tk_s2; refine wpList_lay rfl _ _ _ rfl _ _ rfl _ _ rfl hM 0 rfl (by assumption) (rowTab _ _ rfl) (by omega) (fun k _ => nil3_one k) ?_; intro W' hM'; clear hM tk_s2; have hM := hM'; clear hM'; simp only [List.set_cons_zero] at hM))
      have hA1 := (hM.ats 0 _ _ _ rfl).congr (g := nil3) (fun j hj => by simp [lay, hj, nil3])
      exact bodyPost_ret (results_at2 rfl _ rfl hA1 rowHerd _ rfl) rfl (GivesH.none hM.below rfl rfl)
    have hOk := herdB_iff.1 hB
    have h14' := hOk.n
    have HB := Lib.hid hB
    have HND := Lib.hid (fun (bh : Nat) (W : World) hB => l06Named_any d bh b1 b2 b3 (by omega) s W hB)
    rw [hB] at hc
    cases hI : inB 0 100 e
    · have HI := Lib.hid hI
      clear hc hB hOk hI
      have tk_x1 : True := trivial; have tk_r : True := trivial; have tk_s2 : True := trivial
      go_enter Tryd.func31, Tryd.ntmps31
      go_wp2_with (first | (have _t := tk_x1; refine wpList_box rfl _ _ rfl _ _ rfl hM ?_; intro x1 W' hx1 hM'; clear hM tk_x1; have hM := hM'; clear hM') | (have _t := tk_r; refine wpList_zero rfl _ rfl zeroHerd hM ?_; intro r W' hr hM'; clear hM tk_r; have hM := hM'; clear hM') | (go_at_call 51; refine (HOK.out x1 _ (hM.drop.boxed)).mono ?_; rintro e W' ⟨rfl, hb'⟩; rw [HB.out]; have hM' := hM.call hb'; clear hM hb'; have hM := hM'; clear hM') | (go_at_call 78; refine (l00In_any e 0 100 _).mono ?_; rintro e W' ⟨rfl, hb'⟩; rw [HI.out]; have hM' := hM.call hb'; clear hM hb'; have hM := hM'; clear hM') | (refine wpList_herd0 rfl rfl ?_) | (have _t := tk_s2; refine wpList_lay rfl _ _ _ rfl _ _ rfl _ _ rfl hM 0 rfl (by assumption) (rowTab _ _ rfl) (by omega) (fun k _ => nil3_one k) ?_; intro W' hM'; clear hM tk_s2; have hM := hM'; clear hM'; simp only [List.set_cons_zero] at hM))
      have hA1 := (hM.ats 0 _ _ _ rfl).congr (g := nil3) (fun j hj => by simp [lay, hj, nil3])
      exact bodyPost_ret (results_at2 rfl _ rfl hA1 rowHerd _ rfl) rfl (GivesH.none hM.below rfl rfl)
    have HI := Lib.hid hI
    rw [hI] at hc
    cases hN : nameB s
    · have HNm := Lib.hid hN
      clear hc hB hOk hI hN
      have tk_x1 : True := trivial; have tk_r : True := trivial; have tk_s2 : True := trivial
      go_enter Tryd.func31, Tryd.ntmps31
      go_wp2_with (first | (have _t := tk_x1; refine wpList_box rfl _ _ rfl _ _ rfl hM ?_; intro x1 W' hx1 hM'; clear hM tk_x1; have hM := hM'; clear hM') | (have _t := tk_r; refine wpList_zero rfl _ rfl zeroHerd hM ?_; intro r W' hr hM'; clear hM tk_r; have hM := hM'; clear hM') | (go_at_call 51; refine (HOK.out x1 _ (hM.drop.boxed)).mono ?_; rintro e W' ⟨rfl, hb'⟩; rw [HB.out]; have hM' := hM.call hb'; clear hM hb'; have hM := hM'; clear hM') | (go_at_call 78; refine (l00In_any e 0 100 _).mono ?_; rintro e W' ⟨rfl, hb'⟩; rw [HI.out]; have hM' := hM.call hb'; clear hM hb'; have hM := hM'; clear hM') | (go_at_call 79; refine (l06Name_any s hs _).mono ?_; rintro e W' ⟨rfl, hb'⟩; rw [HNm.out]; have hM' := hM.call hb'; clear hM hb'; have hM := hM'; clear hM') | (refine wpList_herd0 rfl rfl ?_) | (have _t := tk_s2; refine wpList_lay rfl _ _ _ rfl _ _ rfl _ _ rfl hM 0 rfl (by assumption) (rowTab _ _ rfl) (by omega) (fun k _ => nil3_one k) ?_; intro W' hM'; clear hM tk_s2; have hM := hM'; clear hM'; simp only [List.set_cons_zero] at hM))
      have hA1 := (hM.ats 0 _ _ _ rfl).congr (g := nil3) (fun j hj => by simp [lay, hj, nil3])
      exact bodyPost_ret (results_at2 rfl _ rfl hA1 rowHerd _ rfl) rfl (GivesH.none hM.below rfl rfl)
    have HNm := Lib.hid hN
    rw [hN] at hc
    cases hD : nmdB d s
    · rw [hD] at hc
      simp only [if_true, Bool.not_true, Bool.false_or, Bool.false_eq_true, if_false] at hc ⊢
      have HNd := Lib.hid hD
      by_cases h14 : d.n1 = 14
      · have a1 : hdV d b1 b2 b3 0 = .slice (some ⟨b1, 0, none⟩) 14 14 := by unfold hdV; rw [h14]; rfl
        rw [if_pos h14]
        clear hc hB hOk hI hN hD h14
        have tk_x1 : True := trivial; have tk_r : True := trivial; have tk_s2 : True := trivial; have tk_ln : True := trivial
        go_enter Tryd.func31, Tryd.ntmps31
        go_wp2_with (first | (have _t := tk_x1; refine wpList_box rfl _ _ rfl _ _ rfl hM ?_; intro x1 W' hx1 hM'; clear hM tk_x1; have hM := hM'; clear hM') | (have _t := tk_r; refine wpList_zero rfl _ rfl zeroHerd hM ?_; intro r W' hr hM'; clear hM tk_r; have hM := hM'; clear hM') | (go_at_call 51; refine (HOK.out x1 _ (hM.drop.boxed)).mono ?_; rintro e W' ⟨rfl, hb'⟩; rw [HB.out]; have hM' := hM.call hb'; clear hM hb'; have hM := hM'; clear hM') | (go_at_call 78; refine (l00In_any e 0 100 _).mono ?_; rintro e W' ⟨rfl, hb'⟩; rw [HI.out]; have hM' := hM.call hb'; clear hM hb'; have hM := hM'; clear hM') | (go_at_call 79; refine (l06Name_any s hs _).mono ?_; rintro e W' ⟨rfl, hb'⟩; rw [HNm.out]; have hM' := hM.call hb'; clear hM hb'; have hM := hM'; clear hM') | (go_at_call 80; refine (HND.out x1 _ (hM.drop.boxed)).mono ?_; rintro e W' ⟨rfl, hb'⟩; rw [HNd.out]; have hM' := hM.call hb'; clear hM hb'; have hM := hM'; clear hM') | (have _t := tk_ln; refine wpList_get1 rfl _ _ rfl _ _ rfl hM 1 rfl (cellTab _ rfl) (by omega) _ a1 ?_; clear tk_ln) | (refine wpList_herd0 rfl rfl ?_) | (have _t := tk_s2; refine wpList_lay rfl _ _ _ rfl _ _ rfl _ _ rfl hM 0 rfl (by assumption) (rowTab _ _ rfl) (by omega) (fun k _ => nil3_one k) ?_; intro W' hM'; clear hM tk_s2; have hM := hM'; clear hM'; simp only [List.set_cons_zero] at hM))
        have hA1 := (hM.ats 0 _ _ _ rfl).congr (g := nil3) (fun j hj => by simp [lay, hj, nil3])
        exact bodyPost_ret (results_at2 rfl _ rfl hA1 rowHerd _ rfl) rfl (GivesH.none hM.below rfl rfl)
      · rw [if_neg h14] at hc
        exact absurd rfl hc
    · have HNd := Lib.hid hD
      clear hc hB hOk hI hN hD
      have tk_x1 : True := trivial; have tk_r : True := trivial; have tk_s2 : True := trivial
      go_enter Tryd.func31, Tryd.ntmps31
      go_wp2_with (first | (have _t := tk_x1; refine wpList_box rfl _ _ rfl _ _ rfl hM ?_; intro x1 W' hx1 hM'; clear hM tk_x1; have hM := hM'; clear hM') | (have _t := tk_r; refine wpList_zero rfl _ rfl zeroHerd hM ?_; intro r W' hr hM'; clear hM tk_r; have hM := hM'; clear hM') | (go_at_call 51; refine (HOK.out x1 _ (hM.drop.boxed)).mono ?_; rintro e W' ⟨rfl, hb'⟩; rw [HB.out]; have hM' := hM.call hb'; clear hM hb'; have hM := hM'; clear hM') | (go_at_call 78; refine (l00In_any e 0 100 _).mono ?_; rintro e W' ⟨rfl, hb'⟩; rw [HI.out]; have hM' := hM.call hb'; clear hM hb'; have hM := hM'; clear hM') | (go_at_call 79; refine (l06Name_any s hs _).mono ?_; rintro e W' ⟨rfl, hb'⟩; rw [HNm.out]; have hM' := hM.call hb'; clear hM hb'; have hM := hM'; clear hM') | (go_at_call 80; refine (HND.out x1 _ (hM.drop.boxed)).mono ?_; rintro e W' ⟨rfl, hb'⟩; rw [HNd.out]; have hM' := hM.call hb'; clear hM hb'; have hM := hM'; clear hM') | (refine wpList_herd0 rfl rfl ?_) | (have _t := tk_s2; refine wpList_lay rfl _ _ _ rfl _ _ rfl _ _ rfl hM 0 rfl (by assumption) (rowTab _ _ rfl) (by omega) (fun k _ => nil3_one k) ?_; intro W' hM'; clear hM tk_s2; have hM := hM'; clear hM'; simp only [List.set_cons_zero] at hM))
      have hA1 := (hM.ats 0 _ _ _ rfl).congr (g := nil3) (fun j hj => by simp [lay, hj, nil3])
      exact bodyPost_ret (results_at2 rfl _ rfl hA1 rowHerd _ rfl) rfl (GivesH.none hM.below rfl rfl)
end Go.Proofs.YthodkbmenndnoaaDoor

/-
  PLAIN: numbers of groups; the first quarrel.
-/
namespace Go.Proofs.YthodkbmenndnoaaDoor
open Go Go.RowKit

def numU (ys : Nat → Int) : Nat → Bool
  | 0 => true
  | j + 1 => numU ys j && inB 0 13 (ys j)
theorem numU_iff {ys : Nat → Int} : ∀ {n : Nat}, numU ys n = true ↔ ∀ j, j < n → 0 ≤ ys j ∧ ys j ≤ 13
  | 0 => by simp [numU]
  | n + 1 => by
    simp only [numU, Bool.and_eq_true, numU_iff (n := n), inB, decide_eq_true_eq]
    constructor
    · intro ⟨h1, h2⟩ k hk
      rcases Nat.lt_succ_iff_lt_or_eq.1 hk with h | rfl
      · exact h1 k h
      · exact h2
    · intro h
      exact ⟨fun k hk => h k (by omega), h n (by omega)⟩
theorem numU_no {ys : Nat → Int} {n k : Nat} (hk : k < n) (h : inB 0 13 (ys k) = false) : numU ys n = false := by
  cases e : numU ys n with
  | false => rfl
  | true => have := numU_iff.1 e k hk; rw [inB_yes this] at h; exact absurd h (by decide)
/-- Are groups told for all goats? -/
def numsB (d : Hd) (n : Nat) (ys : Nat → Int) : Bool := decide (n = d.n1) && numU ys n
theorem numsB_iff {d : Hd} {n : Nat} {ys : Nat → Int} : numsB d n ys = true ↔ n = d.n1 ∧ ∀ j, j < n → 0 ≤ ys j ∧ ys j ≤ 13 := by
  simp only [numsB, Bool.and_eq_true, decide_eq_true_eq, numU_iff]
/-- Two foes in one group. -/
def qAt (d : Hd) (ys : Nat → Int) (i k : Nat) : Bool := decide (ys i = ys k) && foe d i k
/-- The first one behind i below m with whom i is in one group as a foe. -/
def quarK (d : Hd) (ys : Nat → Int) (i : Nat) : Nat → Option Nat
  | 0 => none
  | m + 1 => match quarK d ys i m with
    | some k => some k
    | none => if i < m ∧ qAt d ys i m = true then some m else none
def quarI (d : Hd) (ys : Nat → Int) (n : Nat) : Nat → Option (Nat × Nat)
  | 0 => none
  | m + 1 => match quarI d ys n m with
    | some p => some p
    | none => (quarK d ys m n).map fun k => (m, k)
theorem quarK_none {d : Hd} {ys : Nat → Int} {i : Nat} : ∀ {m : Nat}, quarK d ys i m = none ↔ ∀ k, k < m → i < k → qAt d ys i k = false
  | 0 => by simp [quarK]
  | m + 1 => by
    have ih := quarK_none (d := d) (ys := ys) (i := i) (m := m)
    simp only [quarK]
    cases e : quarK d ys i m with
    | some k =>
      rw [e] at ih
      constructor
      · intro h; cases h
      · intro h
        exact absurd (ih.2 (fun k hk hi => h k (by omega) hi)) (by simp)
    | none =>
      have h0 := ih.1 e
      constructor
      · intro h k hk hi
        rcases Nat.lt_succ_iff_lt_or_eq.1 hk with h' | rfl
        · exact h0 k h' hi
        · cases hq : qAt d ys i k with
          | false => rfl
          | true => rw [if_pos ⟨hi, hq⟩] at h; cases h
      · intro h
        rw [if_neg]
        rintro ⟨hi, hq⟩
        rw [h m (by omega) hi] at hq
        cases hq
theorem quarK_at {d : Hd} {ys : Nat → Int} {i k : Nat} (h0 : quarK d ys i k = none) (hi : i < k) (hq : qAt d ys i k = true) : ∀ m, k < m → quarK d ys i m = some k
  | 0, h => by omega
  | m + 1, h => by
    simp only [quarK]
    rcases Nat.lt_succ_iff_lt_or_eq.1 h with h' | rfl
    · rw [quarK_at h0 hi hq m h']
    · rw [h0, if_pos ⟨hi, hq⟩]
theorem quarI_step {d : Hd} {ys : Nat → Int} {n m : Nat} (h0 : quarI d ys n m = none) (h1 : quarK d ys m n = none) : quarI d ys n (m + 1) = none := by simp [quarI, h0, h1]
theorem quarI_at {d : Hd} {ys : Nat → Int} {n i k : Nat} (h0 : quarI d ys n i = none) (h1 : quarK d ys i n = some k) : ∀ m, i < m → quarI d ys n m = some (i, k)
  | 0, h => by omega
  | m + 1, h => by
    simp only [quarI]
    rcases Nat.lt_succ_iff_lt_or_eq.1 h with h' | rfl
    · rw [quarI_at h0 h1 m h']
    · rw [h0, h1]; rfl
/-- The bits of all goats. -/
theorem bits_all {n : Nat} (hn : n ≤ 14) : bitsL (2 ^ n - 1) = List.range n := by
  unfold bitsL
  have e : List.range 16 = List.range n ++ (List.range (16 - n)).map (n + ·) := by rw [← List.range_add]; congr 1; omega
  rw [e, List.filter_append]
  have e1 : (List.range n).filter (fun k => (2 ^ n - 1).testBit k) = List.range n := by
    rw [List.filter_eq_self]
    intro a ha
    rw [Nat.testBit_two_pow_sub_one]
    simpa using ha
  have e2 : ((List.range (16 - n)).map (n + ·)).filter (fun k => (2 ^ n - 1).testBit k) = [] := by
    rw [List.filter_eq_nil_iff]
    intro a ha
    simp at ha
    obtain ⟨q, -, rfl⟩ := ha
    rw [Nat.testBit_two_pow_sub_one]
    simp
  rw [e1, e2, List.append_nil]
theorem bitsL_sorted (s : Nat) : (bitsL s).Pairwise (· < ·) := List.Pairwise.filter _ List.pairwise_lt_range
/-- What lies below the j-th bit and is a bit is an earlier one. -/
theorem bits_before {s j x : Nat} (hs : s < 65536) (hj : j < (bitsL s).length) (hx : x < (bitsL s)[j]) (hb : s.testBit x = true) : ∃ q, ∃ hq : q < (bitsL s).length, q < j ∧ (bitsL s)[q] = x := by
  obtain ⟨q, hq, e⟩ := List.getElem_of_mem ((mem_bitsL hs).2 hb)
  refine ⟨q, hq, ?_, e⟩
  refine Nat.lt_of_not_le fun hle => ?_
  rcases Nat.eq_or_lt_of_le hle with rfl | hlt
  · omega
  · have := List.pairwise_iff_getElem.1 (bitsL_sorted s) j q hj hq hlt
    omega
end Go.Proofs.YthodkbmenndnoaaDoor

