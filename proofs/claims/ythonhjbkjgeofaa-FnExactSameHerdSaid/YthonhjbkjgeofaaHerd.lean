/-
  laws.szHerd, toHerd, eqHerd by contracts.
-/
import Derived.Test.YthonhjbkjgeofaaHerdV
import Derived.Test.YthonhjbkjgeofaaResults
namespace Go.Proofs.Ythonhjbkjgeofaa
open Go Go.RowKit Go.BigFrame Go.ChangeShapes Go.WideShapes Go.Deep

theorem cellSS : CellT Try.prog 22 := ⟨⟨_, Try.underlying22, rfl⟩, by kernel_rfl⟩
theorem cellES : CellT Try.prog 23 := ⟨⟨_, Try.underlying23, rfl⟩, by kernel_rfl⟩
theorem cellFS : CellT Try.prog 24 := ⟨⟨_, Try.underlying24, rfl⟩, by kernel_rfl⟩
theorem rowHerd : RowT Try.prog 29 3 := ⟨⟨_, Try.underlying29, rfl⟩, by kernel_rfl⟩
theorem rowLHerd : RowT Try.prog 26 3 := ⟨⟨_, Try.underlying26, rfl⟩, by kernel_rfl⟩
theorem zeroHerd : (Try.prog.info? 29).map (·.zero) = some (some (.agg (arr 3 fun _ => .slice none 0 0))) := by kernel_rfl

/-- What the size check gives: -1, or what is left. -/
def LeftH (d : Hd) (left : Int) (w : World) (e : Ending) (w' : World) : Prop := (∃ r : Int, e = .returned (.int .i64 r) ∧ (r = -1 ∨ (0 ≤ r ∧ r ≤ left ∧ (d.n1 : Int) ≤ left ∧ (d.n2 : Int) ≤ left ∧ (d.n3 : Int) ≤ left))) ∧ Below w.heap.size w w'

set_option maxRecDepth 100000 in
set_option maxHeartbeats 1000000 in
theorem szHerd_any (v : Value) (d : Hd) (left : Int) (hd : FitsH d) (h0 : 0 ≤ left) (hl : left ≤ 1048576) (w : World) (h : HerdArg w v d) :
    Calls Try.prog 4 #[v, .int .i64 left] w (LeftH d left w) := by
  have hM := Mem.nil w
  obtain ⟨v1, v2, v3, rfl, A1, A2, A3⟩ := h
  have HA1 := Lib.hid A1
  have HA2 := Lib.hid A2
  have HA3 := Lib.hid A3
  clear A1 A2 A3
  have tk_b1 : True := trivial
  go_enter Try.func4, Try.ntmps4
  go_wp2_with (first | (have _t := tk_b1; refine wpList_box rfl _ _ rfl _ _ rfl hM ?_; intro b1 W' hb1 hM'; clear hM tk_b1; have hM := hM'; clear hM') | (refine wpList_get1 rfl _ _ rfl _ _ rfl hM 0 rfl cellSS (by omega) v1 rfl ?_))
  go_at_call 9
  refine (szStringS_any v1 d.n1 d.ss left hd.l1 hd.s h0 hl _ (HA1.out.below hM.below)).mono ?_
  rintro e W' ⟨⟨r1, rfl, rfl | ⟨p0, p1, p2⟩⟩, hb⟩
  · have hM' := hM.call hb
    clear hM hb
    go_wp2
    go_ret
    exact ⟨⟨-1, rfl, .inl rfl⟩, hM'.below⟩
  have hM' := hM.call hb
  clear hM hb
  have hM := hM'
  clear hM'
  have d1 : decide (r1 < 0) = false := decide_eq_false (by omega)
  go_wp2_with (first | (refine wpList_get1 rfl _ _ rfl _ _ rfl hM 0 rfl cellES (by omega) v2 rfl ?_))
  go_at_call 10
  refine (szInt16S_any v2 d.n2 d.es r1 hd.l2 p0 (by omega) _ (HA2.out.below hM.below)).mono ?_
  rintro e W' ⟨⟨r2, rfl, rfl | ⟨q0, q1, q2⟩⟩, hb⟩
  · have hM' := hM.call hb
    clear hM hb
    go_wp2
    go_ret
    exact ⟨⟨-1, rfl, .inl rfl⟩, hM'.below⟩
  have hM' := hM.call hb
  clear hM hb
  have hM := hM'
  clear hM'
  have d2 : decide (r2 < 0) = false := decide_eq_false (by omega)
  go_wp2_with (first | (refine wpList_get1 rfl _ _ rfl _ _ rfl hM 0 rfl cellFS (by omega) v3 rfl ?_))
  go_at_call 11
  refine (szUint16S_any v3 d.n3 d.fs r2 hd.l3 q0 (by omega) _ (HA3.out.below hM.below)).mono ?_
  rintro e W' ⟨⟨r3, rfl, rfl | ⟨s0, s1, s2⟩⟩, hb⟩
  · have hM' := hM.call hb
    clear hM hb
    go_wp2
    go_ret
    exact ⟨⟨-1, rfl, .inl rfl⟩, hM'.below⟩
  have hM' := hM.call hb
  clear hM hb
  have hM := hM'
  clear hM'
  have d3 : decide (r3 < 0) = false := decide_eq_false (by omega)
  go_wp2
  go_ret
  exact ⟨⟨r3, rfl, .inr ⟨s0, by omega, by omega, by omega, by omega⟩⟩, hM.below⟩

/-- A herd whose lists are three blocks. -/
def hdV (d : Hd) (b1 b2 b3 : Nat) : Nat → Value := h3 (.slice (some ⟨b1, 0, none⟩) d.n1 d.n1) (.slice (some ⟨b2, 0, none⟩) d.n2 d.n2) (.slice (some ⟨b3, 0, none⟩) d.n3 d.n3)
def hdB (d : Hd) (b1 b2 b3 : Nat) : Blocks := [(b1, d.n1, vStringS d.ss), (b2, d.n2, vInt16S d.es), (b3, d.n3, vUint16S d.fs)]
def GivenH (d : Hd) (w : World) (e : Ending) (w' : World) : Prop := ∃ b1 b2 b3, e = .returned (.agg (arr 3 (hdV d b1 b2 b3))) ∧ w.heap.size ≤ b1 ∧ w.heap.size ≤ b2 ∧ w.heap.size ≤ b3 ∧ Mem w (hdB d b1 b2 b3) w'

set_option maxRecDepth 100000 in
set_option maxHeartbeats 1000000 in
theorem toHerd_any (v : Value) (d : Hd) (h1 : d.n1 ≤ 1048576) (h2 : d.n2 ≤ 1048576) (h3 : d.n3 ≤ 1048576) (w : World) (h : HerdArg w v d) :
    Calls Try.prog 6 #[v] w (GivenH d w) := by
  have hM := Mem.nil w
  obtain ⟨v1, v2, v3, rfl, A1, A2, A3⟩ := h
  have HA1 := Lib.hid A1
  have HA2 := Lib.hid A2
  have HA3 := Lib.hid A3
  clear A1 A2 A3
  have tk_b1 : True := trivial; have tk_b2 : True := trivial; have tk_b3 : True := trivial; have tk_c1 : True := trivial; have tk_c2 : True := trivial; have tk_c3 : True := trivial
  go_enter Try.func6, Try.ntmps6
  go_wp2_with (first | (have _t := tk_b1; refine wpList_box rfl _ _ rfl _ _ rfl hM ?_; intro b1 W' hb1 hM'; clear hM tk_b1; have hM := hM'; clear hM') | (have _t := tk_b2; refine wpList_zero rfl _ rfl zeroHerd hM ?_; intro b2 W' hb2 hM'; clear hM tk_b2; have hM := hM'; clear hM') | (have _t := tk_b3; refine wpList_zero rfl _ rfl zeroHerd hM ?_; intro b3 W' hb3 hM'; clear hM tk_b3; have hM := hM'; clear hM') | (refine wpList_get1 rfl _ _ rfl _ _ rfl hM 2 rfl cellSS (by omega) v1 rfl ?_) | (refine wpList_get1 rfl _ _ rfl _ _ rfl hM 2 rfl cellES (by omega) v2 rfl ?_) | (refine wpList_get1 rfl _ _ rfl _ _ rfl hM 2 rfl cellFS (by omega) v3 rfl ?_) | (have _t := tk_c1; go_at_call 12; (with_reducible refine (toStringS_any v1 d.n1 d.ss h1 _ (HA1.out.below hM.below)).mono ?_); rintro e W' ⟨c1, rfl, hc1, hA', hcb⟩; have gc1 := Nat.le_trans hM.size hc1; have hM' := hM.fresh' hcb hA' hc1; simp only [List.cons_append, List.nil_append] at hM'; clear hM hcb hA' tk_c1; have hM := hM'; clear hM') | (have _t := tk_c2; go_at_call 13; (with_reducible refine (toInt16S_any v2 d.n2 d.es h2 _ (HA2.out.below hM.below)).mono ?_); rintro e W' ⟨c2, rfl, hc2, hA', hcb⟩; have gc2 := Nat.le_trans hM.size hc2; have hM' := hM.fresh' hcb hA' hc2; simp only [List.cons_append, List.nil_append] at hM'; clear hM hcb hA' tk_c2; have hM := hM'; clear hM') | (have _t := tk_c3; go_at_call 14; (with_reducible refine (toUint16S_any v3 d.n3 d.fs h3 _ (HA3.out.below hM.below)).mono ?_); rintro e W' ⟨c3, rfl, hc3, hA', hcb⟩; have gc3 := Nat.le_trans hM.size hc3; have hM' := hM.fresh' hcb hA' hc3; simp only [List.cons_append, List.nil_append] at hM'; clear hM hcb hA' tk_c3; have hM := hM'; clear hM') | (refine wpList_set1 rfl _ _ _ rfl _ _ rfl _ rfl rfl hM 0 rfl (by assumption) (by first | exact cellSS | exact cellES | exact cellFS) (by omega) ?_; intro W' hM'; clear hM; have hM := hM'; clear hM'; simp only [List.set] at hM) | (refine wpList_get rfl _ _ rfl _ _ rfl hM 0 rfl rowHerd (by omega) ?_) | (refine wpList_lay rfl _ _ _ rfl _ _ rfl _ _ rfl hM 1 rfl (by assumption) rowHerd (by omega) ?_ ?_; (intro k _; simp only [upd]; (repeat' split) <;> rfl); intro W' hM'; clear hM; have hM := hM'; clear hM'; simp only [List.set] at hM))
  have hA := (hM.ats 1 _ _ _ rfl).congr (g := hdV d c1 c2 c3) (fun k hk => by
    rcases (show k = 0 ∨ k = 1 ∨ k = 2 by omega) with rfl | rfl | rfl <;> rfl)
  exact bodyPost_ret (results_at rfl _ rfl hA rowHerd) rfl ⟨c1, c2, c3, rfl, gc1, gc2, gc3, hM.drop.drop.drop⟩

set_option maxRecDepth 100000 in
set_option maxHeartbeats 1000000 in
theorem eqHerd_same (d : Hd) (b1 b2 b3 c1 c2 c3 : Nat) (l1 : d.n1 ≤ maxLen) (l2 : d.n2 ≤ maxLen) (l3 : d.n3 ≤ maxLen) (w : World) (A1 : At w b1 d.n1 (vStringS d.ss)) (A2 : At w b2 d.n2 (vInt16S d.es)) (A3 : At w b3 d.n3 (vUint16S d.fs)) (C1 : At w c1 d.n1 (vStringS d.ss)) (C2 : At w c2 d.n2 (vInt16S d.es)) (C3 : At w c3 d.n3 (vUint16S d.fs)) (n1 : b1 ≠ c1) (n2 : b2 ≠ c2) (n3 : b3 ≠ c3) :
    Calls Try.prog 8 #[.agg (arr 3 (hdV d b1 b2 b3)), .agg (arr 3 (hdV d c1 c2 c3))] w fun e w' => e = .returned (.bool true) ∧ Below w.heap.size w w' := by
  have hM := Mem.nil w
  have HA1 := Lib.hid A1
  have HA2 := Lib.hid A2
  have HA3 := Lib.hid A3
  have HC1 := Lib.hid C1
  have HC2 := Lib.hid C2
  have HC3 := Lib.hid C3
  clear A1 A2 A3 C1 C2 C3
  have tk_x1 : True := trivial; have tk_x2 : True := trivial
  go_enter Try.func8, Try.ntmps8
  go_wp2_with (first | (have _t := tk_x1; refine wpList_box rfl _ _ rfl _ _ rfl hM ?_; intro x1 W' hx1 hM'; clear hM tk_x1; have hM := hM'; clear hM') | (have _t := tk_x2; refine wpList_box rfl _ _ rfl _ _ rfl hM ?_; intro x2 W' hx2 hM'; clear hM tk_x2; have hM := hM'; clear hM') | (refine wpList_get1 rfl _ _ rfl _ _ rfl hM 1 rfl (by first | exact cellSS | exact cellES | exact cellFS) (by omega) _ rfl ?_) | (refine wpList_get1 rfl _ _ rfl _ _ rfl hM 0 rfl (by first | exact cellSS | exact cellES | exact cellFS) (by omega) _ rfl ?_) | (go_at_call 18; refine (eqStringS_same b1 c1 d.n1 d.n1 d.n1 d.ss l1 _ (HA1.out.below hM.below HA1.out.lt) (HC1.out.below hM.below HC1.out.lt) n1).mono ?_; rintro e W' ⟨rfl, hb'⟩; have hM' := hM.call hb'; clear hM hb'; have hM := hM'; clear hM') | (go_at_call 19; refine (eqInt16S_same b2 c2 d.n2 d.n2 d.n2 d.es l2 _ (HA2.out.below hM.below HA2.out.lt) (HC2.out.below hM.below HC2.out.lt) n2).mono ?_; rintro e W' ⟨rfl, hb'⟩; have hM' := hM.call hb'; clear hM hb'; have hM := hM'; clear hM') | (go_at_call 20; refine (eqUint16S_same b3 c3 d.n3 d.n3 d.n3 d.fs l3 _ (HA3.out.below hM.below HA3.out.lt) (HC3.out.below hM.below HC3.out.lt) n3).mono ?_; rintro e W' ⟨rfl, hb'⟩; have hM' := hM.call hb'; clear hM hb'; have hM := hM'; clear hM'))
  go_ret
  exact ⟨rfl, hM.below⟩
end Go.Proofs.Ythonhjbkjgeofaa
