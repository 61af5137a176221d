/-
  Several texts in one: WithFoesC, KeepH, WithFoesI, HerdEq.
-/
import Derived.Test.YthodkbmenndnoaaDoorP11
import Derived.Test.YthodkbmenndnoaaDoorP12
import Derived.Test.YthodkbmenndnoaaDoorP9
/-
  spec.WithFoes, impl.WithFoes by contracts.
-/
namespace Go.Proofs.YthodkbmenndnoaaDoor
open Go Go.RowKit Go.BigFrame

theorem run_herd0 (W : World) : (Instr.build 29 #[]).run Tryd.prog W = .ok (.agg (arr 3 (h3 (.slice none 0 0) (.slice none 0 0) (.slice none 0 0)))) W := by kernel_rfl
theorem wpList_herd0 {ops : Array Oper} {rest : List Oper} {o : Oper} {a : Act} {W : World} {Q : Exit → Act → World → Prop} (hgd : o.guard = none) (ho : o.op = .build 29 #[])
    (h : wpList Tryd.prog ops Q rest (a.put o.dst (.agg (arr 3 (h3 (.slice none 0 0) (.slice none 0 0) (.slice none 0 0))))) W) : wpList Tryd.prog ops Q (o :: rest) a W := by
  refine wpList_plain hgd fun K hK => ?_
  have hr := run_herd0 W
  unfold Oper.wp execOp
  simp only [ho, List.map_toArray, List.map_nil, Sem.run_bind, Sem.run_pure, hr, Result.andThen_ok]
  exact hK _ _ h
def nil3 : Nat → Value := h3 (.slice none 0 0) (.slice none 0 0) (.slice none 0 0)
theorem nil3_one (k : Nat) : (nil3 k).oneCell' = true := h3_one rfl rfl rfl k
theorem h3_zero (k : Nat) : (h3 (.slice none 0 0) (.slice none 0 0) (.slice none 0 0) (0 + k)).oneCell' = true := h3_one rfl rfl rfl _

/-- The code; the goats that come out. -/
def wfC (d : Hd) (x y : Int) : Int := if areC d x y = 0 then (if x = y then 4 else 0) else areC d x y
def wfN (d : Hd) (x y : Int) : Nat := if wfC d x y = 0 then d.n1 else 0
def wfF (d : Hd) (i k : Nat) (on : Bool) : Nat → Int := fun j => if j = k then ((putB (d.fs k).toNat i on : Nat) : Int) else if j = i then ((putB (d.fs i).toNat k on : Nat) : Int) else d.fs j
theorem wf_0 {d : Hd} {x y : Int} (h : wfC d x y = 0) : areC d x y = 0 ∧ x ≠ y := by
  unfold wfC at h
  split at h
  · rename_i h0
    refine ⟨h0, fun e => ?_⟩
    rw [if_pos e] at h
    cases h
  · contradiction

set_option maxRecDepth 100000 in
set_option maxHeartbeats 4000000 in
theorem specWithFoes_any (d : Hd) (b1 b2 b3 : Nat) (hd : FitsH d) (x y : Int) (on : Bool) (w : World) (hM0 : Mem w (hdB d b1 b2 b3) w) :
    Calls Tryd.prog 28 #[.agg (arr 3 (hdV d b1 b2 b3)), .int .i64 x, .int .i64 y, .bool on] w (GivesH (wfN d x y) (vStringS d.ss) (vInt16S d.es) (vUint16S (wfF d x.toNat y.toNat on)) (wfC d x y) w) := by
  have hM : Mem w (hdB d b1 b2 b3 ++ []) w := by rw [List.append_nil]; exact hM0
  have H0 := Lib.hid hM0
  clear hM0
  have HAC := Lib.hid (fun (bh : Nat) (a : Option Addr) (W : World) hB hG => l06Asked_any d bh b1 b2 b3 hd a 2 2 (two2 x y) (by omega) W hB hG)
  by_cases hc : wfC d x y = 0
  · obtain ⟨hc0, hxy⟩ := wf_0 hc
    obtain ⟨hOk, -, -, i, k, rfl, rfl, hi, hk⟩ := are_0 hc0
    have h14 := hOk.n
    have HC := Lib.hid (show askC d 2 (two2 (i : Int) (k : Int)) = 0 from hc0)
    have hik : i ≠ k := fun e => hxy (by rw [e])
    have z3 : ((i : Int) == (k : Int)) = false := beq_eq_false_iff_ne.2 hxy
    have hfi := hd.f i (by rw [hOk.l3]; exact hi)
    have hfk := hd.f k (by rw [hOk.l3]; exact hk)
    obtain ⟨s, hs⟩ : ∃ s : Nat, d.fs i = s := ⟨(d.fs i).toNat, by omega⟩
    obtain ⟨t, ht⟩ : ∃ t : Nat, d.fs k = t := ⟨(d.fs k).toNat, by omega⟩
    have hs2 : s < 65536 := by omega
    have ht2 : t < 65536 := by omega
    have HR := Lib.hid (show wfN d (i : Int) (k : Int) = d.n1 ∧ wfC d (i : Int) (k : Int) = 0 from ⟨by unfold wfN; rw [if_pos hc], hc⟩)
    have HF := Lib.hid (show ∀ (F : Nat → Value), (∀ j, j < d.n1 * 1 → F j = vUint16S d.fs j) → ∀ j, j < d.n1 → put2 F i k (putB s k on) (putB t i on) j = vUint16S (wfF d i k on) j from fun F hF j hj => by
      have := hF j (by omega)
      unfold put2 vUint16S wfF
      rw [hs, ht, Int.toNat_natCast, Int.toNat_natCast]
      split
      · rfl
      · split
        · rfl
        · exact this)
    have Hs := Lib.hid (And.intro hs ht)
    have HOWN := Lib.hid (fun (bh : Nat) (W : World) hB => l06Own_any d bh b1 b2 b3 (by omega) hOk.l2 hOk.l3 W hB)
    have hi14 : i < 14 := by omega
    have hk14 : k < 14 := by omega
    rw [Int.toNat_natCast, Int.toNat_natCast]
    generalize wfF d i k on = WF at HF ⊢
    clear hc hc0 hxy hOk hs ht hfi hfk
    have tk_x1 : True := trivial; have tk_r : True := trivial; have tk_l1 : True := trivial; have tk_w1 : True := trivial; have tk_o : True := trivial; have tk_s1 : True := trivial; have tk_p1 : True := trivial; have tk_g1 : True := trivial; have tk_s2 : True := trivial
    go_enter Tryd.func28, Tryd.ntmps28
    go_wp2_with (first | (have _t := tk_x1; refine wpList_box rfl _ _ rfl _ _ rfl hM ?_; intro x1 W' hx1 hM'; clear hM tk_x1; have hM := hM'; clear hM') | (have _t := tk_r; refine wpList_zero rfl _ rfl zeroHerd hM ?_; intro r W' hr hM'; clear hM tk_r; have hM := hM'; clear hM') | (have _t := tk_l1; refine wpList_lit2 rfl _ _ _ _ rfl (.int .i64 (i : Int)) (.int .i64 (k : Int)) rfl rfl rfl rfl _ int64s_underR int64_infoR hM ?_; intro l1 W' hl1 hM'; clear hM tk_l1; have hM := hM'; clear hM') | (go_at_call 62; refine (HAC.out x1 _ _ (hM.drop.drop.boxed) (lit2_ints (hM.ats 0 _ _ _ rfl) rfl)).mono ?_; rintro e W' ⟨rfl, hb'⟩; rw [HC.out]; have hM' := hM.call hb'; clear hM hb'; have hM := hM'; clear hM') | (have _t := tk_w1; go_at_call 71; refine (HOWN.out x1 _ (hM.drop.drop.boxed)).mono ?_; rintro e W' ⟨f, rfl, e1, c1, F1, e2, c2, F2, e3, c3, F3, rfl, ⟨he1, he2, he3⟩, ⟨hc1, hc2, hc3⟩, ⟨hF1, hF2, hF3⟩, hK⟩; have hM' := hM.front hK.below hK (fun i p h => by rcases i with _ | _ | _ | i <;> simp at h <;> (rw [← h]; assumption)); have HF1 := Lib.hid hF1; have HF2 := Lib.hid hF2; have HF3 := Lib.hid hF3; have He := Lib.hid (And.intro (Nat.le_trans hM.size he1) (And.intro (Nat.le_trans hM.size he2) (Nat.le_trans hM.size he3))); clear hM hK tk_w1 hF1 hF2 hF3 he1 he2 he3; have hM := hM'; clear hM'; simp only [List.cons_append, List.nil_append] at hM) | (have _t := tk_o; refine wpList_zero rfl _ rfl zeroHerd hM ?_; intro o W' ho hM'; clear hM tk_o; have hM := hM'; clear hM') | (have _t := tk_s1; refine wpList_lay rfl _ _ _ rfl _ _ rfl _ _ rfl hM 0 rfl (by assumption) (rowTab _ _ rfl) (by omega) (fun k _ => h3_one rfl rfl rfl k) ?_; intro W' hM'; have hM2 := hM'.re 0 rfl (h3 (.slice (some ⟨e1, 0, none⟩) d.n1 c1) (.slice (some ⟨e2, 0, none⟩) d.n1 c2) (.slice (some ⟨e3, 0, none⟩) d.n1 c3)) (fun k hk => by simp [lay, hk]); simp only [List.set_cons_zero] at hM2; clear hM hM' tk_s1; have hM := hM2.toFront 3 rfl; simp only [List.eraseIdx_cons_succ, List.eraseIdx_cons_zero] at hM; clear hM2) | (have _t := tk_p1; go_at_call 72; refine (l06Put_any _ _ o e3 d.n1 c3 (c3 * 1) F3 _ rfl He.out.2.2 (by omega) i k s t on hi hk hik hi14 hk14 hs2 ht2 ((HF3.out i (by omega)).trans (congrArg (Value.int .u16) Hs.out.1)) ((HF3.out k (by omega)).trans (congrArg (Value.int .u16) Hs.out.2)) _ hM).mono ?_; rintro e W' ⟨rfl, hM'⟩; clear hM tk_p1; have hM := hM'; clear hM') | (have _t := tk_g1; refine wpList_get rfl _ _ rfl _ _ rfl hM 1 rfl (rowTab _ _ rfl) (by omega) ?_; simp only [Nat.zero_add]; clear tk_g1) | (have _t := tk_s2; refine wpList_lay rfl _ _ _ rfl _ _ rfl _ _ rfl hM 5 rfl (by assumption) (rowTab _ _ rfl) (by omega) (fun k _ => h3_one rfl rfl rfl k) ?_; intro W' hM'; clear hM tk_s2; have hM := hM'; clear hM'; simp only [List.set] at hM))
    have hA1 := (hM.ats 5 _ _ _ rfl).congr (g := h3 (.slice (some ⟨e1, 0, none⟩) d.n1 c1) (.slice (some ⟨e2, 0, none⟩) d.n1 c2) (.slice (some ⟨e3, 0, none⟩) d.n1 c3)) (fun j hj => by simp [lay, hj])
    refine bodyPost_ret (results_at2 rfl _ rfl hA1 rowHerd _ rfl) rfl ?_
    rw [HR.out.1, HR.out.2]
    exact ⟨_, rfl, .inr ⟨e1, c1, c1 * 1, F1, e2, c2, c2 * 1, F2, e3, c3, c3 * 1, _, rfl, He.out, ⟨by omega, by omega, by omega⟩, ⟨fun j hj => HF1.out j (by omega), fun j hj => HF2.out j (by omega), HF.out F3 HF3.out⟩, hM.sub (fun i => [2, 3, 0].getD i 0) (fun i p h => by rcases i with _ | _ | _ | i <;> simp at h ⊢ <;> exact h) rfl⟩⟩
  · have HR := Lib.hid (show wfN d x y = 0 from by unfold wfN; rw [if_neg hc])
    rw [HR.out]
    obtain ⟨C, hC⟩ : ∃ C, wfC d x y = C := ⟨_, rfl⟩
    rw [hC] at hc ⊢
    by_cases ha : areC d x y = 0
    · unfold wfC at hC
      rw [if_pos ha] at hC
      by_cases hxy : x = y
      · subst hxy
        rw [if_pos rfl] at hC
        subst hC
        have HC := Lib.hid (show askC d 2 (two2 x x) = 0 from ha)
        clear ha hc
        have tk_x1 : True := trivial; have tk_r : True := trivial; have tk_l1 : True := trivial; have tk_s1 : True := trivial
        go_enter Tryd.func28, Tryd.ntmps28
        go_wp2_with (first | (have _t := tk_x1; refine wpList_box rfl _ _ rfl _ _ rfl hM ?_; intro x1 W' hx1 hM'; clear hM tk_x1; have hM := hM'; clear hM') | (have _t := tk_r; refine wpList_zero rfl _ rfl zeroHerd hM ?_; intro r W' hr hM'; clear hM tk_r; have hM := hM'; clear hM') | (have _t := tk_l1; refine wpList_lit2 rfl _ _ _ _ rfl (.int .i64 x) (.int .i64 x) rfl rfl rfl rfl _ int64s_underR int64_infoR hM ?_; intro l1 W' hl1 hM'; clear hM tk_l1; have hM := hM'; clear hM') | (go_at_call 62; refine (HAC.out x1 _ _ (hM.drop.drop.boxed) (lit2_ints (hM.ats 0 _ _ _ rfl) rfl)).mono ?_; rintro e W' ⟨rfl, hb'⟩; rw [HC.out]; have hM' := hM.call hb'; clear hM hb'; have hM := hM'; clear hM') | (refine wpList_herd0 rfl rfl ?_) | (have _t := tk_s1; refine wpList_lay rfl _ _ _ rfl _ _ rfl _ _ rfl hM 1 rfl (by assumption) (rowTab _ _ rfl) (by omega) (fun k _ => nil3_one k) ?_; intro W' hM'; clear hM tk_s1; have hM := hM'; clear hM'; simp only [List.set] at hM))
        have hA1 := (hM.ats 1 _ _ _ rfl).congr (g := nil3) (fun j hj => by simp [lay, hj, nil3])
        exact bodyPost_ret (results_at2 rfl _ rfl hA1 rowHerd _ rfl) rfl (GivesH.none hM.below rfl rfl)
      · rw [if_neg hxy] at hC
        exact absurd hC.symm hc
    · unfold wfC at hC
      rw [if_neg ha] at hC
      have HC := Lib.hid (show askC d 2 (two2 x y) = C from hC)
      have z1 : (C != 0) = true := bne_iff_ne.2 hc
      have z2 : (C == 0) = false := beq_eq_false_iff_ne.2 hc
      clear ha hc hC
      have tk_x1 : True := trivial; have tk_r : True := trivial; have tk_l1 : True := trivial; have tk_s1 : True := trivial
      go_enter Tryd.func28, Tryd.ntmps28
      go_wp2_with (first | (have _t := tk_x1; refine wpList_box rfl _ _ rfl _ _ rfl hM ?_; intro x1 W' hx1 hM'; clear hM tk_x1; have hM := hM'; clear hM') | (have _t := tk_r; refine wpList_zero rfl _ rfl zeroHerd hM ?_; intro r W' hr hM'; clear hM tk_r; have hM := hM'; clear hM') | (have _t := tk_l1; refine wpList_lit2 rfl _ _ _ _ rfl (.int .i64 x) (.int .i64 y) rfl rfl rfl rfl _ int64s_underR int64_infoR hM ?_; intro l1 W' hl1 hM'; clear hM tk_l1; have hM := hM'; clear hM') | (go_at_call 62; refine (HAC.out x1 _ _ (hM.drop.drop.boxed) (lit2_ints (hM.ats 0 _ _ _ rfl) rfl)).mono ?_; rintro e W' ⟨rfl, hb'⟩; rw [HC.out]; have hM' := hM.call hb'; clear hM hb'; have hM := hM'; clear hM') | (refine wpList_herd0 rfl rfl ?_) | (have _t := tk_s1; refine wpList_lay rfl _ _ _ rfl _ _ rfl _ _ rfl hM 1 rfl (by assumption) (rowTab _ _ rfl) (by omega) (fun k _ => nil3_one k) ?_; intro W' hM'; clear hM tk_s1; have hM := hM'; clear hM'; simp only [List.set] at hM))
      have hA1 := (hM.ats 1 _ _ _ rfl).congr (g := nil3) (fun j hj => by simp [lay, hj, nil3])
      exact bodyPost_ret (results_at2 rfl _ rfl hA1 rowHerd _ rfl) rfl (GivesH.none hM.below rfl rfl)
/-- The herd that comes out. -/
def wfD (d : Hd) (i k : Nat) (on : Bool) : Hd := ⟨d.n1, d.n2, d.n3, d.ss, d.es, wfF d i k on⟩
theorem sMem_at (d : Hd) (i : Nat) : sMem d (i * 3 + 2) = .int .u16 (d.fs i) := by rw [sMem_row d i 2 (by omega)]; rfl
theorem wfD_sMem {d : Hd} {i k : Nat} {on : Bool} {s t n : Nat} (hik : i ≠ k) (hs : d.fs i = s) (ht : d.fs k = t) (F : Nat → Value) (hF : ∀ j, j < n * 3 → F j = sMem d j) : ∀ j, j < n * 3 → upd (upd F (i * 3 + 2) (.int .u16 ((putB s k on : Nat) : Int))) (k * 3 + 2) (.int .u16 ((putB t i on : Nat) : Int)) j = sMem (wfD d i k on) j := fun j hj => by
  have h := hF j hj
  have e1 : (wfD d i k on).ss = d.ss := rfl
  have e2 : (wfD d i k on).es = d.es := rfl
  have e3 : (wfD d i k on).fs = wfF d i k on := rfl
  unfold sMem gMem mem3 at *
  rw [e1, e2, e3]
  simp only [upd]
  unfold wfF
  rw [hs, ht, Int.toNat_natCast, Int.toNat_natCast]
  by_cases h2 : j % 3 = 2
  · by_cases hk : j = k * 3 + 2
    · subst hk
      rw [if_pos rfl, if_neg (by omega), if_neg (by omega), if_pos (by omega)]
    · rw [if_neg hk]
      by_cases hi : j = i * 3 + 2
      · subst hi
        rw [if_pos rfl, if_neg (by omega), if_neg (by omega), if_neg (by omega), if_pos (by omega)]
      · rw [if_neg hi, h, if_neg (by omega), if_neg (by omega), if_neg (by omega), if_neg (by omega), if_neg (by omega), if_neg (by omega)]
  · rw [if_neg (by omega), if_neg (by omega), h]
    by_cases h0 : j % 3 = 0
    · rw [if_pos h0, if_pos h0]
    · rw [if_neg h0, if_neg h0, if_pos (by omega), if_pos (by omega)]

end Go.Proofs.YthodkbmenndnoaaDoor

/-
  PLAIN: a new herd's lists kept beside other blocks.
-/
namespace Go.Proofs.YthodkbmenndnoaaDoor
open Go Go.RowKit

theorem Mem.last3 {b0 : Base} {L : Blocks} {p q r : Nat × Nat × (Nat → Value)} {W : World} (h : Mem b0 (L ++ [p, q, r]) W) : Mem b0 [p, q, r] W :=
  h.sub (fun i => L.length + i) (fun i x hx => by
    rw [List.getElem?_append_right (by omega), Nat.add_sub_cancel_left]; exact hx) (by
    simp only [List.length_cons, List.length_nil, List.range_succ_eq_map, List.range_zero, List.map_nil, List.map_cons, List.all_cons, List.all_nil]
    simp)
theorem NewH.keep {n : Nat} {R1 R2 R3 : Nat → Value} {b0 : Base} {L : Blocks} {X : World} {f : Nat → Value} {X' : World} (hM : Mem b0 L X) (h : NewH n R1 R2 R3 X f X') :
    ∃ K, Mem b0 (L ++ K) X' ∧ ∀ (w : World) (L' : Blocks) (W : World), w.heap.size ≤ X.heap.size → Mem (Base.of w) (L' ++ K) W → NewH n R1 R2 R3 w f W := by
  rcases h with ⟨h1, h2, h3⟩ | ⟨b1, c1, N1, F1, b2, c2, N2, F2, b3, c3, N3, F3, h, ⟨g1, g2, g3⟩, hN, hF, hK⟩
  · exact ⟨[], by rw [List.append_nil]; exact hM.call h3, fun w L' W _ hW => .inl ⟨h1, h2, hW.below⟩⟩
  · exact ⟨_, hM.fresh3 hK.below hK g1 g2 g3, fun w L' W hle hW => .inr ⟨b1, c1, N1, F1, b2, c2, N2, F2, b3, c3, N3, F3, h, ⟨Nat.le_trans hle g1, Nat.le_trans hle g2, Nat.le_trans hle g3⟩, hN, hF, hW.last3⟩⟩
end Go.Proofs.YthodkbmenndnoaaDoor

/-
  impl.WithFoes by contract.
-/
namespace Go.Proofs.YthodkbmenndnoaaDoor
open Go Go.RowKit Go.BigFrame

set_option maxRecDepth 100000 in
set_option maxHeartbeats 4000000 in
theorem implWithFoes_any {a : Nat → Addr} (d : Hd) (b1 b2 b3 : Nat) (hd : FitsH d) (x y : Int) (on : Bool) (w : World) (hM0 : Mem w (hdB d b1 b2 b3) w) (hE : Errs a w) (hT : Tab w) :
    Calls Tryd.prog 29 #[.agg (arr 3 (hdV d b1 b2 b3)), .int .i64 x, .int .i64 y, .bool on] w (GivesH (wfN d x y) (vStringS d.ss) (vInt16S d.es) (vUint16S (wfF d x.toNat y.toNat on)) (wfC d x y) w) := by
  have hM := Mem.nil w
  have H0 := Lib.hid hM0
  have HE := Lib.hid hE
  have HT := Lib.hid hT
  clear hM0 hE hT
  by_cases hc : wfC d x y = 0
  · obtain ⟨hc0, hxy⟩ := wf_0 hc
    obtain ⟨hOk, hys, -, i, k, rfl, rfl, hi, hk⟩ := are_0 hc0
    have h14 := hOk.n
    have hik : i ≠ k := fun e => hxy (by rw [e])
    have z3 : ((i : Int) == (k : Int)) = false := beq_eq_false_iff_ne.2 hxy
    have hfi := hd.f i (by rw [hOk.l3]; exact hi)
    have hfk := hd.f k (by rw [hOk.l3]; exact hk)
    obtain ⟨s, hs⟩ : ∃ s : Nat, d.fs i = s := ⟨(d.fs i).toNat, by omega⟩
    obtain ⟨t, ht⟩ : ∃ t : Nat, d.fs k = t := ⟨(d.fs k).toNat, by omega⟩
    have hs2 : s < 65536 := by omega
    have ht2 : t < 65536 := by omega
    have HR := Lib.hid (show wfN d (i : Int) (k : Int) = d.n1 ∧ wfC d (i : Int) (k : Int) = 0 from ⟨by unfold wfN; rw [if_pos hc], hc⟩)
    have HG := Lib.hid (fun (F : Nat → Value) hF => wfD_sMem (on := on) (n := d.n1) hik hs ht F hF)
    have Hs := Lib.hid (And.intro hs ht)
    have hFW := fun (ga : Option Addr) (W : World) hB hE hG => flockWith_own (r := a 1) d b1 b2 b3 hd ga 2 2 (two2 (i : Int) (k : Int)) (by omega) W hB hE hG hOk hys
    have hi14 : i < 14 := by omega
    have hk14 : k < 14 := by omega
    have hn14 := h14
    rw [Int.toNat_natCast, Int.toNat_natCast]
    show Calls _ _ _ _ (GivesH _ (vStringS (wfD d i k on).ss) (vInt16S (wfD d i k on).es) (vUint16S (wfD d i k on).fs) _ _)
    obtain ⟨hv, hhv⟩ : ∃ f, hdV d b1 b2 b3 = f := ⟨_, rfl⟩
    rw [hhv] at hFW ⊢
    obtain ⟨n, hn⟩ : ∃ n, d.n1 = n := ⟨_, rfl⟩
    rw [hn] at hFW HG HR hi hk h14
    have HFW := Lib.hid hFW
    have hne : i * 3 + 2 ≠ k * 3 + 2 := by omega
    clear hc hc0 hxy hOk hs ht hfi hfk hhv hFW hys hn hn14
    have tk_x1 : True := trivial; have tk_r : True := trivial; have tk_r1 : True := trivial; have tk_l1 : True := trivial; have tk_f8 : True := trivial; have tk_s1 : True := trivial; have tk_m1 : True := trivial; have tk_p1 : True := trivial; have tk_m2 : True := trivial; have tk_p2 : True := trivial; have tk_m3 : True := trivial; have tk_h1 : True := trivial; have tk_s2 : True := trivial
    go_enter Tryd.func29, Tryd.ntmps29
    go_wp2_with (first | (have _t := tk_x1; refine wpList_box rfl _ _ rfl _ _ rfl hM ?_; intro x1 W' hx1 hM'; clear hM tk_x1; have hM := hM'; clear hM') | (have _t := tk_r; refine wpList_zero rfl _ rfl zeroHerd hM ?_; intro r W' hr hM'; clear hM tk_r; have hM := hM'; clear hM') | (have _t := tk_r1; refine wpList_get rfl _ _ rfl _ _ rfl hM 1 rfl (rowTab _ _ rfl) (by omega) ?_; simp only [Nat.zero_add]; clear tk_r1) | (have _t := tk_l1; refine wpList_lit2 rfl _ _ _ _ rfl (.int .i64 (i : Int)) (.int .i64 (k : Int)) rfl rfl rfl rfl _ int64s_underR int64_infoR hM ?_; intro l1 W' hl1 hM'; clear hM tk_l1; have hM := hM'; clear hM') | (go_at_call 64; refine (HFW.out _ _ ((H0.out.call hM.below).base (Below.refl _ _)) ⟨(HE.out.below hM.below).vars 1 (by omega), HT.out.below hM.below⟩ (lit2_ints (hM.ats 0 _ _ _ rfl) rfl)).mono ?_; rintro e Wf ⟨ma, mc, m, rfl, hmc0, hMA, hO, hb'⟩; obtain ⟨bm, F, rfl, hbm, hmc, hF, hAm⟩ := hMA.some (by omega); have hM' := hM.freshQ hb' hAm hbm; have HBM := Lib.hid (Nat.le_trans hM.size hbm); have HF := Lib.hid hF; clear hM hb' hO hMA hmc0 hF hAm hbm; have hM := hM'; clear hM') | (have _t := tk_f8; refine wpList_zero rfl _ rfl (zeroTab _ _ _ rfl) hM ?_; intro f8 W' hf8 hM'; clear hM tk_f8; have hM := hM'; clear hM') | (have _t := tk_s1; refine wpList_lay rfl _ _ _ rfl _ _ rfl _ _ rfl hM 0 rfl (by assumption) (rowTab _ _ rfl) (by omega) (fun k _ => flkV_one _ _ _ _ k) ?_; intro W' hM'; have hM2 := hM'.re 0 rfl (flkV (some ⟨bm, 0, none⟩) n mc m) (fun k hk => by simp [lay, hk]); simp only [List.set_cons_zero] at hM2; clear hM hM' tk_s1; have hM := hM2.swap; clear hM2) | (have _t := tk_m1; refine wpList_get1 rfl _ _ rfl _ _ rfl hM 1 rfl (cellTab _ rfl) (by omega) (.slice (some ⟨bm, 0, none⟩) n mc) rfl ?_; clear tk_m1) | (have _t := tk_p1; go_at_call 73; refine (setFoe_any _ _ bm n mc (mc * 3) _ HBM.out (by omega) i k s on hi hk14 hs2 ((HF.out (i * 3 + 2) (by omega)).trans ((sMem_at d i).trans (congrArg (Value.int .u16) Hs.out.1))) _ hM).mono ?_; rintro e W' ⟨rfl, hM'⟩; clear hM tk_p1; have hM := hM'; clear hM') | (have _t := tk_m2; refine wpList_get1 rfl _ _ rfl _ _ rfl hM 1 rfl (cellTab _ rfl) (by omega) (.slice (some ⟨bm, 0, none⟩) n mc) rfl ?_; clear tk_m2) | (have _t := tk_p2; go_at_call 73; refine (setFoe_any _ _ bm n mc (mc * 3) _ HBM.out (by omega) k i t on hk hi14 ht2 (by simp only [upd]; rw [if_neg (Ne.symm hne)]; exact (HF.out (k * 3 + 2) (by omega)).trans ((sMem_at d k).trans (congrArg (Value.int .u16) Hs.out.2))) _ hM).mono ?_; rintro e W' ⟨rfl, hM'⟩; clear hM tk_p2; have hM := hM'; clear hM') | (have _t := tk_m3; refine wpList_get1 rfl _ _ rfl _ _ rfl hM 1 rfl (cellTab _ rfl) (by omega) (.slice (some ⟨bm, 0, none⟩) n mc) rfl ?_; clear tk_m3) | (have _t := tk_h1; go_at_call 74; refine (herd_any (wfD d i k on) (some ⟨bm, 0, none⟩) n mc (by omega) _ (.inr ⟨bm, mc * 3, _, rfl, by omega, HG.out F HF.out, hM.ats 0 _ _ _ rfl⟩)).mono ?_; rintro e W2 ⟨f, rfl, hN⟩; have HO := Lib.hid hN.one; obtain ⟨K, hM', hK⟩ := hN.keep hM; have HK := Lib.hid (And.intro hM.size hK); clear hK; clear hM hN tk_h1; have hM := hM'; clear hM'; simp only [List.cons_append, List.nil_append] at hM) | (have _t := tk_s2; refine wpList_lay rfl _ _ _ rfl _ _ rfl _ _ rfl hM 3 rfl (by assumption) (rowTab _ _ rfl) (by omega) (fun k _ => HO.out k) ?_; intro W' hM'; clear hM tk_s2; have hM := hM'; clear hM'; simp only [List.set, List.cons_append, List.nil_append] at hM))
    have hA1 := (hM.ats 3 _ _ _ rfl).congr (g := f) (fun j hj => by simp [lay, hj])
    refine bodyPost_ret (results_at2 rfl _ rfl hA1 rowHerd _ rfl) rfl ?_
    rw [HR.out.1, HR.out.2]
    exact ⟨_, rfl, HK.out.2 w [_, _, _, _, _] _ HK.out.1 hM⟩
  · have HR := Lib.hid (show wfN d x y = 0 from by unfold wfN; rw [if_neg hc])
    rw [HR.out]
    obtain ⟨C, hC⟩ : ∃ C, wfC d x y = C := ⟨_, rfl⟩
    rw [hC] at hc ⊢
    by_cases ha : areC d x y = 0
    · unfold wfC at hC
      rw [if_pos ha] at hC
      by_cases hxy : x = y
      · subst hxy
        rw [if_pos rfl] at hC
        subst hC
        obtain ⟨hOk, hys, -, -⟩ := are_0 ha
        have hFW := fun (ga : Option Addr) (W : World) hB hE hG => flockWith_ok (r := a 1) d b1 b2 b3 hd ga 2 2 (two2 x x) (by omega) W hB hE hG hOk hys
        obtain ⟨hv, hhv⟩ : ∃ f, hdV d b1 b2 b3 = f := ⟨_, rfl⟩
        rw [hhv] at hFW ⊢
        have HFW := Lib.hid hFW
        clear ha hc hhv hFW hOk hys
        have tk_x1 : True := trivial; have tk_r : True := trivial; have tk_r1 : True := trivial; have tk_l1 : True := trivial; have tk_f8 : True := trivial; have tk_s1 : True := trivial; have tk_s2 : True := trivial
        go_enter Tryd.func29, Tryd.ntmps29
        go_wp2_with (first | (have _t := tk_x1; refine wpList_box rfl _ _ rfl _ _ rfl hM ?_; intro x1 W' hx1 hM'; clear hM tk_x1; have hM := hM'; clear hM') | (have _t := tk_r; refine wpList_zero rfl _ rfl zeroHerd hM ?_; intro r W' hr hM'; clear hM tk_r; have hM := hM'; clear hM') | (have _t := tk_r1; refine wpList_get rfl _ _ rfl _ _ rfl hM 1 rfl (rowTab _ _ rfl) (by omega) ?_; simp only [Nat.zero_add]; clear tk_r1) | (have _t := tk_l1; refine wpList_lit2 rfl _ _ _ _ rfl (.int .i64 x) (.int .i64 x) rfl rfl rfl rfl _ int64s_underR int64_infoR hM ?_; intro l1 W' hl1 hM'; clear hM tk_l1; have hM := hM'; clear hM') | (go_at_call 64; refine (HFW.out _ _ ((H0.out.call hM.below).base (Below.refl _ _)) ⟨(HE.out.below hM.below).vars 1 (by omega), HT.out.below hM.below⟩ (lit2_ints (hM.ats 0 _ _ _ rfl) rfl)).mono ?_; rintro e Wf ⟨ma, mc, m, rfl, hmc0, hMA, hO, hb'⟩; have hM' := hM.call hb'; clear hM hb' hO hMA hmc0; have hM := hM'; clear hM') | (have _t := tk_f8; refine wpList_zero rfl _ rfl (zeroTab _ _ _ rfl) hM ?_; intro f8 W' hf8 hM'; clear hM tk_f8; have hM := hM'; clear hM') | (have _t := tk_s1; refine wpList_lay rfl _ _ _ rfl _ _ rfl _ _ rfl hM 0 rfl (by assumption) (rowTab _ _ rfl) (by omega) (fun k _ => flkV_one _ _ _ _ k) ?_; intro W' hM'; clear hM tk_s1; have hM := hM'; clear hM'; simp only [List.set_cons_zero] at hM) | (refine wpList_herd0 rfl rfl ?_) | (have _t := tk_s2; refine wpList_lay rfl _ _ _ rfl _ _ rfl _ _ rfl hM 2 rfl (by assumption) (rowTab _ _ rfl) (by omega) (fun k _ => nil3_one k) ?_; intro W' hM'; clear hM tk_s2; have hM := hM'; clear hM'; simp only [List.set] at hM))
        have hA1 := (hM.ats 2 _ _ _ rfl).congr (g := nil3) (fun j hj => by simp [lay, hj, nil3])
        exact bodyPost_ret (results_at2 rfl _ rfl hA1 rowHerd _ rfl) rfl (GivesH.none hM.below rfl rfl)
      · rw [if_neg hxy] at hC
        exact absurd hC.symm hc
    · unfold wfC at hC
      rw [if_neg ha] at hC
      have hz : askC d 2 (two2 x y) ≠ 0 := ha
      have hFW := fun (ga : Option Addr) (W : World) hB hE hT hG => flockWith_bad (a := a) d b1 b2 b3 hd ga 2 2 (two2 x y) (by omega) W hB hE hT hG hz
      unfold areC at hC
      subst hC
      obtain ⟨hv, hhv⟩ : ∃ f, hdV d b1 b2 b3 = f := ⟨_, rfl⟩
      rw [hhv] at hFW ⊢
      generalize askC d 2 (two2 x y) = C at *
      have HFW := Lib.hid hFW
      clear hhv hFW ha hc hz
      have tk_x1 : True := trivial; have tk_r : True := trivial; have tk_r1 : True := trivial; have tk_l1 : True := trivial; have tk_f8 : True := trivial; have tk_s1 : True := trivial; have tk_s2 : True := trivial
      go_enter Tryd.func29, Tryd.ntmps29
      go_wp2_with (first | (have _t := tk_x1; refine wpList_box rfl _ _ rfl _ _ rfl hM ?_; intro x1 W' hx1 hM'; clear hM tk_x1; have hM := hM'; clear hM') | (have _t := tk_r; refine wpList_zero rfl _ rfl zeroHerd hM ?_; intro r W' hr hM'; clear hM tk_r; have hM := hM'; clear hM') | (have _t := tk_r1; refine wpList_get rfl _ _ rfl _ _ rfl hM 1 rfl (rowTab _ _ rfl) (by omega) ?_; simp only [Nat.zero_add]; clear tk_r1) | (have _t := tk_l1; refine wpList_lit2 rfl _ _ _ _ rfl (.int .i64 x) (.int .i64 y) rfl rfl rfl rfl _ int64s_underR int64_infoR hM ?_; intro l1 W' hl1 hM'; clear hM tk_l1; have hM := hM'; clear hM') | (go_at_call 64; refine (HFW.out _ _ ((H0.out.call hM.below).base (Below.refl _ _)) (HE.out.below hM.below) (HT.out.below hM.below) (lit2_ints (hM.ats 0 _ _ _ rfl) rfl)).mono ?_; rintro e Wf ⟨ff, ev, rfl, hone, hEv, hb'⟩; have hM' := hM.call hb'; have hN := hEv.neq; have hGd := hEv.guard; have HEv := Lib.hid hEv; have HOne := Lib.hid hone; clear hM hb' hEv hone; have hM := hM'; clear hM') | (have _t := tk_f8; refine wpList_zero rfl _ rfl (zeroTab _ _ _ rfl) hM ?_; intro f8 W' hf8 hM'; clear hM tk_f8; have hM := hM'; clear hM') | (have _t := tk_s1; refine wpList_lay rfl _ _ _ rfl _ _ rfl _ _ rfl hM 0 rfl (by assumption) (rowTab _ _ rfl) (by omega) HOne.out ?_; intro W' hM'; clear hM tk_s1; have hM := hM'; clear hM'; simp only [List.set_cons_zero] at hM) | (refine wpList_herd0 rfl rfl ?_) | (go_at_call 65; refine (HEv.out.code (HE.out.below hM.below)).mono ?_; rintro e W' ⟨rfl, rfl⟩) | (have _t := tk_s2; refine wpList_lay rfl _ _ _ rfl _ _ rfl _ _ rfl hM 2 rfl (by assumption) (rowTab _ _ rfl) (by omega) (fun k _ => nil3_one k) ?_; intro W' hM'; clear hM tk_s2; have hM := hM'; clear hM'; simp only [List.set] at hM))
      have hA1 := (hM.ats 2 _ _ _ rfl).congr (g := nil3) (fun j hj => by simp [lay, hj, nil3])
      exact bodyPost_ret (results_at2 rfl _ rfl hA1 rowHerd _ rfl) rfl (GivesH.none hM.below rfl rfl)
end Go.Proofs.YthodkbmenndnoaaDoor

/-
  laws.eqHerd, markHerd, heldHerd over herds that calls gave.
-/
namespace Go.Proofs.YthodkbmenndnoaaDoor
open Go Go.RowKit Go.BigFrame

set_option maxRecDepth 100000 in
set_option maxHeartbeats 1000000 in
theorem eqHerd_list (n : Nat) (ss : Nat → ByteArray) (es fs : Nat → Int) (hn : n ≤ 1048576) (b1 c1 N1 b2 c2 N2 b3 c3 N3 e1 d1 M1 e2 d2 M2 e3 d3 M3 : Nat) (F1 F2 F3 G1 G2 G3 hv gv : Nat → Value)
    (a1 : hv 0 = .slice (some ⟨b1, 0, none⟩) n c1) (a2 : hv 1 = .slice (some ⟨b2, 0, none⟩) n c2) (a3 : hv 2 = .slice (some ⟨b3, 0, none⟩) n c3) (x1 : gv 0 = .slice (some ⟨e1, 0, none⟩) n d1) (x2 : gv 1 = .slice (some ⟨e2, 0, none⟩) n d2) (x3 : gv 2 = .slice (some ⟨e3, 0, none⟩) n d3)
    (hN : n ≤ N1 ∧ n ≤ N2 ∧ n ≤ N3) (hM' : n ≤ M1 ∧ n ≤ M2 ∧ n ≤ M3) (hF : (∀ j, j < n → F1 j = vStringS ss j) ∧ (∀ j, j < n → F2 j = vInt16S es j) ∧ ∀ j, j < n → F3 j = vUint16S fs j) (hG : (∀ j, j < n → G1 j = vStringS ss j) ∧ (∀ j, j < n → G2 j = vInt16S es j) ∧ ∀ j, j < n → G3 j = vUint16S fs j)
    (w : World) (A1 : At w b1 N1 F1) (A2 : At w b2 N2 F2) (A3 : At w b3 N3 F3) (C1 : At w e1 M1 G1) (C2 : At w e2 M2 G2) (C3 : At w e3 M3 G3) (n1 : b1 ≠ e1) (n2 : b2 ≠ e2) (n3 : b3 ≠ e3) :
    Calls Tryd.prog 19 #[.agg (arr 3 hv), .agg (arr 3 gv)] w fun e w' => e = .returned (.bool true) ∧ Below w.heap.size w w' := by
  have hM := Mem.nil w
  have HA1 := Lib.hid A1
  have HA2 := Lib.hid A2
  have HA3 := Lib.hid A3
  have HC1 := Lib.hid C1
  have HC2 := Lib.hid C2
  have HC3 := Lib.hid C3
  have HF := Lib.hid hF
  have HG := Lib.hid hG
  have HN := Lib.hid hN
  have HM := Lib.hid hM'
  have HNE := Lib.hid (And.intro n1 (And.intro n2 n3))
  clear A1 A2 A3 C1 C2 C3 hF hG hN hM' n1 n2 n3
  have tk_y1 : True := trivial; have tk_y2 : True := trivial
  go_enter Tryd.func19, Tryd.ntmps19
  go_wp2_with (first | (have _t := tk_y1; refine wpList_box rfl _ _ rfl _ _ rfl hM ?_; intro y1 W' hy1 hM'; clear hM tk_y1; have hM := hM'; clear hM') | (have _t := tk_y2; refine wpList_box rfl _ _ rfl _ _ rfl hM ?_; intro y2 W' hy2 hM'; clear hM tk_y2; have hM := hM'; clear hM') | (refine wpList_get1 rfl _ _ rfl _ _ rfl hM 1 rfl (by first | exact cellSS | exact cellES | exact cellFS) (by omega) _ a1 ?_) | (refine wpList_get1 rfl _ _ rfl _ _ rfl hM 1 rfl (by first | exact cellSS | exact cellES | exact cellFS) (by omega) _ a2 ?_) | (refine wpList_get1 rfl _ _ rfl _ _ rfl hM 1 rfl (by first | exact cellSS | exact cellES | exact cellFS) (by omega) _ a3 ?_) | (refine wpList_get1 rfl _ _ rfl _ _ rfl hM 0 rfl (by first | exact cellSS | exact cellES | exact cellFS) (by omega) _ x1 ?_) | (refine wpList_get1 rfl _ _ rfl _ _ rfl hM 0 rfl (by first | exact cellSS | exact cellES | exact cellFS) (by omega) _ x2 ?_) | (refine wpList_get1 rfl _ _ rfl _ _ rfl hM 0 rfl (by first | exact cellSS | exact cellES | exact cellFS) (by omega) _ x3 ?_) | (go_at_call 59; refine (eqStringS_list b1 e1 n c1 d1 N1 M1 F1 G1 ss HF.out.1 HG.out.1 HN.out.1 HM.out.1 hn _ (HA1.out.below hM.below HA1.out.lt) (HC1.out.below hM.below HC1.out.lt) HNE.out.1).mono ?_; rintro e W' ⟨rfl, hb'⟩; have hM' := hM.call hb'; clear hM hb'; have hM := hM'; clear hM') | (go_at_call 60; refine (eqInt16S_list b2 e2 n c2 d2 N2 M2 F2 G2 es HF.out.2.1 HG.out.2.1 HN.out.2.1 HM.out.2.1 hn _ (HA2.out.below hM.below HA2.out.lt) (HC2.out.below hM.below HC2.out.lt) HNE.out.2.1).mono ?_; rintro e W' ⟨rfl, hb'⟩; have hM' := hM.call hb'; clear hM hb'; have hM := hM'; clear hM') | (go_at_call 61; refine (eqUint16S_list b3 e3 n c3 d3 N3 M3 F3 G3 fs HF.out.2.2 HG.out.2.2 HN.out.2.2 HM.out.2.2 hn _ (HA3.out.below hM.below HA3.out.lt) (HC3.out.below hM.below HC3.out.lt) HNE.out.2.2).mono ?_; rintro e W' ⟨rfl, hb'⟩; have hM' := hM.call hb'; clear hM hb'; have hM := hM'; clear hM'))
  go_ret
  exact ⟨rfl, hM.below⟩
set_option maxRecDepth 100000 in
set_option maxHeartbeats 1000000 in
theorem eqHerd_zero (a1 a2 a3 x1 x2 x3 : Option Addr) (c1 c2 c3 d1 d2 d3 : Nat) (w : World) :
    Calls Tryd.prog 19 #[.agg (arr 3 (h3 (.slice a1 0 c1) (.slice a2 0 c2) (.slice a3 0 c3))), .agg (arr 3 (h3 (.slice x1 0 d1) (.slice x2 0 d2) (.slice x3 0 d3)))] w fun e w' => e = .returned (.bool true) ∧ Below w.heap.size w w' := by
  have hM := Mem.nil w
  have tk_y1 : True := trivial; have tk_y2 : True := trivial
  go_enter Tryd.func19, Tryd.ntmps19
  go_wp2_with (first | (have _t := tk_y1; refine wpList_box rfl _ _ rfl _ _ rfl hM ?_; intro y1 W' hy1 hM'; clear hM tk_y1; have hM := hM'; clear hM') | (have _t := tk_y2; refine wpList_box rfl _ _ rfl _ _ rfl hM ?_; intro y2 W' hy2 hM'; clear hM tk_y2; have hM := hM'; clear hM') | (refine wpList_get1 rfl _ _ rfl _ _ rfl hM 1 rfl (by first | exact cellSS | exact cellES | exact cellFS) (by omega) (.slice a1 0 c1) rfl ?_) | (refine wpList_get1 rfl _ _ rfl _ _ rfl hM 1 rfl (by first | exact cellSS | exact cellES | exact cellFS) (by omega) (.slice a2 0 c2) rfl ?_) | (refine wpList_get1 rfl _ _ rfl _ _ rfl hM 1 rfl (by first | exact cellSS | exact cellES | exact cellFS) (by omega) (.slice a3 0 c3) rfl ?_) | (refine wpList_get1 rfl _ _ rfl _ _ rfl hM 0 rfl (by first | exact cellSS | exact cellES | exact cellFS) (by omega) (.slice x1 0 d1) rfl ?_) | (refine wpList_get1 rfl _ _ rfl _ _ rfl hM 0 rfl (by first | exact cellSS | exact cellES | exact cellFS) (by omega) (.slice x2 0 d2) rfl ?_) | (refine wpList_get1 rfl _ _ rfl _ _ rfl hM 0 rfl (by first | exact cellSS | exact cellES | exact cellFS) (by omega) (.slice x3 0 d3) rfl ?_) | (go_at_call 59; refine (eqStringS_zero a1 x1 c1 d1 _).mono ?_; rintro e W' ⟨rfl, hb'⟩; have hM' := hM.call hb'; clear hM hb'; have hM := hM'; clear hM') | (go_at_call 60; refine (eqInt16S_zero a2 x2 c2 d2 _).mono ?_; rintro e W' ⟨rfl, hb'⟩; have hM' := hM.call hb'; clear hM hb'; have hM := hM'; clear hM') | (go_at_call 61; refine (eqUint16S_zero a3 x3 c3 d3 _).mono ?_; rintro e W' ⟨rfl, hb'⟩; have hM' := hM.call hb'; clear hM hb'; have hM := hM'; clear hM'))
  go_ret
  exact ⟨rfl, hM.below⟩
set_option maxRecDepth 100000 in
set_option maxHeartbeats 1000000 in
theorem markHerd_zero (a1 a2 a3 : Option Addr) (c1 c2 c3 : Nat) (w : World) :
    Calls Tryd.prog 23 #[.agg (arr 3 (h3 (.slice a1 0 c1) (.slice a2 0 c2) (.slice a3 0 c3))), .int .i64 1] w fun e w' => e = .returned (.int .i64 1) ∧ Below w.heap.size w w' := by
  have hM := Mem.nil w
  have tk_y1 : True := trivial
  go_enter Tryd.func23, Tryd.ntmps23
  go_wp2_with (first | (have _t := tk_y1; refine wpList_box rfl _ _ rfl _ _ rfl hM ?_; intro y1 W' hy1 hM'; clear hM tk_y1; have hM := hM'; clear hM') | (refine wpList_get1 rfl _ _ rfl _ _ rfl hM 0 rfl (by first | exact cellSS | exact cellES | exact cellFS) (by omega) (.slice a1 0 c1) rfl ?_) | (refine wpList_get1 rfl _ _ rfl _ _ rfl hM 0 rfl (by first | exact cellSS | exact cellES | exact cellFS) (by omega) (.slice a2 0 c2) rfl ?_) | (refine wpList_get1 rfl _ _ rfl _ _ rfl hM 0 rfl (by first | exact cellSS | exact cellES | exact cellFS) (by omega) (.slice a3 0 c3) rfl ?_) | (go_at_call 67; refine (markStringS_zero a1 c1 1 _).mono ?_; rintro e W' ⟨rfl, hb'⟩; have hM' := hM.call hb'; clear hM hb'; have hM := hM'; clear hM') | (go_at_call 68; refine (markInt16S_zero a2 c2 1 _).mono ?_; rintro e W' ⟨rfl, hb'⟩; have hM' := hM.call hb'; clear hM hb'; have hM := hM'; clear hM') | (go_at_call 69; refine (markUint16S_zero a3 c3 1 _).mono ?_; rintro e W' ⟨rfl, hb'⟩; have hM' := hM.call hb'; clear hM hb'; have hM := hM'; clear hM'))
  go_ret
  exact ⟨rfl, hM.below⟩
set_option maxRecDepth 100000 in
set_option maxHeartbeats 1000000 in
theorem heldHerd_zero (a1 a2 a3 : Option Addr) (c1 c2 c3 : Nat) (w : World) :
    Calls Tryd.prog 30 #[.agg (arr 3 (h3 (.slice a1 0 c1) (.slice a2 0 c2) (.slice a3 0 c3))), .int .i64 1] w fun e w' => e = .returned (.int .i64 1) ∧ Below w.heap.size w w' := by
  have hM := Mem.nil w
  have tk_y1 : True := trivial
  go_enter Tryd.func30, Tryd.ntmps30
  go_wp2_with (first | (have _t := tk_y1; refine wpList_box rfl _ _ rfl _ _ rfl hM ?_; intro y1 W' hy1 hM'; clear hM tk_y1; have hM := hM'; clear hM') | (refine wpList_get1 rfl _ _ rfl _ _ rfl hM 0 rfl (by first | exact cellSS | exact cellES | exact cellFS) (by omega) (.slice a1 0 c1) rfl ?_) | (refine wpList_get1 rfl _ _ rfl _ _ rfl hM 0 rfl (by first | exact cellSS | exact cellES | exact cellFS) (by omega) (.slice a2 0 c2) rfl ?_) | (refine wpList_get1 rfl _ _ rfl _ _ rfl hM 0 rfl (by first | exact cellSS | exact cellES | exact cellFS) (by omega) (.slice a3 0 c3) rfl ?_) | (go_at_call 75; refine (heldStringS_zero a1 c1 1 _).mono ?_; rintro e W' ⟨rfl, hb'⟩; have hM' := hM.call hb'; clear hM hb'; have hM := hM'; clear hM') | (go_at_call 76; refine (heldInt16S_zero a2 c2 1 _).mono ?_; rintro e W' ⟨rfl, hb'⟩; have hM' := hM.call hb'; clear hM hb'; have hM := hM'; clear hM') | (go_at_call 77; refine (heldUint16S_zero a3 c3 1 _).mono ?_; rintro e W' ⟨rfl, hb'⟩; have hM' := hM.call hb'; clear hM hb'; have hM := hM'; clear hM'))
  go_ret
  exact ⟨rfl, hM.below⟩
end Go.Proofs.YthodkbmenndnoaaDoor

