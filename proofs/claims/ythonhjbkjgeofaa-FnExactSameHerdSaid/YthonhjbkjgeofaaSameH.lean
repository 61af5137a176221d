/-
  spec.SameHerd and impl.SameHerd by contracts.
-/
import Derived.Test.YthonhjbkjgeofaaHerd
namespace Go.Proofs.Ythonhjbkjgeofaa
open Go Go.RowKit Go.BigFrame Go.ChangeShapes Go.WideShapes Go.Deep

/-- Are two herds the same? -/
def sameH (d d' : Hd) : Bool := sameStringS d.n1 d'.n1 d.ss d'.ss && sameInt16S d.n2 d'.n2 d.es d'.es && sameUint16S d.n3 d'.n3 d.fs d'.fs
theorem sameH_1 {d d' : Hd} (h : sameStringS d.n1 d'.n1 d.ss d'.ss = false) : sameH d d' = false := by simp [sameH, h]
theorem sameH_2 {d d' : Hd} (h : sameInt16S d.n2 d'.n2 d.es d'.es = false) : sameH d d' = false := by simp [sameH, h]
theorem sameH_3 {d d' : Hd} (h : sameUint16S d.n3 d'.n3 d.fs d'.fs = false) : sameH d d' = false := by simp [sameH, h]
theorem sameH_yes {d d' : Hd} (h1 : sameStringS d.n1 d'.n1 d.ss d'.ss = true) (h2 : sameInt16S d.n2 d'.n2 d.es d'.es = true) (h3 : sameUint16S d.n3 d'.n3 d.fs d'.fs = true) : sameH d d' = true := by simp [sameH, h1, h2, h3]
theorem sameH_self (d : Hd) : sameH d d = true := sameH_yes (sameStringS_self _ _) (sameInt16S_self _ _) (sameUint16S_self _ _)

/-- The blocks of two herds, and their boxes. -/
def two (d d' : Hd) (x1 x2 b1 b2 b3 c1 c2 c3 : Nat) : Blocks := [(x2, 3, hdV d' c1 c2 c3), (x1, 3, hdV d b1 b2 b3), (b1, d.n1, vStringS d.ss), (b2, d.n2, vInt16S d.es), (b3, d.n3, vUint16S d.fs), (c1, d'.n1, vStringS d'.ss), (c2, d'.n2, vInt16S d'.es), (c3, d'.n3, vUint16S d'.fs)]

set_option maxRecDepth 100000 in
set_option maxHeartbeats 2000000 in
theorem specSameHerd_any (d d' : Hd) (b1 b2 b3 c1 c2 c3 : Nat) (hd : FitsH d) (hd' : FitsH d') (w : World) (hM0 : Mem w (hdB d b1 b2 b3 ++ hdB d' c1 c2 c3) w) :
    Calls Try.prog 5 #[.agg (arr 3 (hdV d b1 b2 b3)), .agg (arr 3 (hdV d' c1 c2 c3))] w fun e w' => e = .returned (.bool (sameH d d')) ∧ Below w.heap.size w w' := by
  obtain ⟨l1, l2, l3, -, -, -⟩ := hd
  obtain ⟨m1, m2, m3, -, -, -⟩ := hd'
  obtain ⟨n1, n2, n3, ss, es, fs⟩ := d
  obtain ⟨n1', n2', n3', ss', es', fs'⟩ := d'
  simp only [hdB, List.cons_append, List.nil_append] at hM0
  simp only at l1 l2 l3 m1 m2 m3
  unfold maxLen at l1 l2 l3 m1 m2 m3
  have hM := hM0
  clear hM0
  by_cases e1 : n1 = n1'
  case neg =>
    have a1 : hdV (⟨n1, n2, n3, ss, es, fs⟩ : Hd) b1 b2 b3 0 = .slice (some ⟨b1, 0, none⟩) n1 n1 := rfl
    have c1' : hdV (⟨n1', n2', n3', ss', es', fs'⟩ : Hd) c1 c2 c3 0 = .slice (some ⟨c1, 0, none⟩) n1' n1' := rfl
    have a2 : hdV (⟨n1, n2, n3, ss, es, fs⟩ : Hd) b1 b2 b3 1 = .slice (some ⟨b2, 0, none⟩) n2 n2 := rfl
    have c2' : hdV (⟨n1', n2', n3', ss', es', fs'⟩ : Hd) c1 c2 c3 1 = .slice (some ⟨c2, 0, none⟩) n2' n2' := rfl
    have a3 : hdV (⟨n1, n2, n3, ss, es, fs⟩ : Hd) b1 b2 b3 2 = .slice (some ⟨b3, 0, none⟩) n3 n3 := rfl
    have c3' : hdV (⟨n1', n2', n3', ss', es', fs'⟩ : Hd) c1 c2 c3 2 = .slice (some ⟨c3, 0, none⟩) n3' n3' := rfl
    generalize hdV (⟨n1, n2, n3, ss, es, fs⟩ : Hd) b1 b2 b3 = f1 at a1 a2 a3 ⊢
    generalize hdV (⟨n1', n2', n3', ss', es', fs'⟩ : Hd) c1 c2 c3 = f2 at c1' c2' c3' ⊢
    have hz : ¬ (n1 : Int) = n1' := by omega
    have z1 : decide ((n1 : Int) = n1') = false := decide_eq_false hz
    have Hs := Lib.hid (sameH_1 (d := (⟨n1, n2, n3, ss, es, fs⟩ : Hd)) (d' := (⟨n1', n2', n3', ss', es', fs'⟩ : Hd)) (sameStringS_len (ys := ss) (ys' := ss') e1))
    clear e1
    have tk_x1 : True := trivial; have tk_x2 : True := trivial
    go_enter Try.func5, Try.ntmps5
    go_wp2_with (first | (have _t := tk_x1; refine wpList_box rfl _ _ rfl _ _ rfl hM ?_; intro x1 W' hx1 hM'; clear hM tk_x1; have hM := hM'; clear hM') | (have _t := tk_x2; refine wpList_box rfl _ _ rfl _ _ rfl hM ?_; intro x2 W' hx2 hM'; clear hM tk_x2; have hM := hM'; clear hM'; have k1 : W'.cell? ⟨x1, 0, none⟩ = some (.slice (some ⟨b1, 0, none⟩) n1 n1) := ((hM.ats 1 _ _ _ rfl).cell (k := 0) (by omega)).trans (congrArg some a1); have m1 : W'.cell? ⟨x2, 0, none⟩ = some (.slice (some ⟨c1, 0, none⟩) n1' n1') := ((hM.ats 0 _ _ _ rfl).cell (k := 0) (by omega)).trans (congrArg some c1'); have k2 : W'.cell? ⟨x1, 1, none⟩ = some (.slice (some ⟨b2, 0, none⟩) n2 n2) := ((hM.ats 1 _ _ _ rfl).cell (k := 1) (by omega)).trans (congrArg some a2); have m2 : W'.cell? ⟨x2, 1, none⟩ = some (.slice (some ⟨c2, 0, none⟩) n2' n2') := ((hM.ats 0 _ _ _ rfl).cell (k := 1) (by omega)).trans (congrArg some c2'); have k3 : W'.cell? ⟨x1, 2, none⟩ = some (.slice (some ⟨b3, 0, none⟩) n3 n3) := ((hM.ats 1 _ _ _ rfl).cell (k := 2) (by omega)).trans (congrArg some a3); have m3 : W'.cell? ⟨x2, 2, none⟩ = some (.slice (some ⟨c3, 0, none⟩) n3' n3') := ((hM.ats 0 _ _ _ rfl).cell (k := 2) (by omega)).trans (congrArg some c3')))
    go_ret
    exact ⟨ret_bool Hs.out.symm, hM.below⟩
  subst e1
  by_cases e2 : n2 = n2'
  case neg =>
    have a1 : hdV (⟨n1, n2, n3, ss, es, fs⟩ : Hd) b1 b2 b3 0 = .slice (some ⟨b1, 0, none⟩) n1 n1 := rfl
    have c1' : hdV (⟨n1, n2', n3', ss', es', fs'⟩ : Hd) c1 c2 c3 0 = .slice (some ⟨c1, 0, none⟩) n1 n1 := rfl
    have a2 : hdV (⟨n1, n2, n3, ss, es, fs⟩ : Hd) b1 b2 b3 1 = .slice (some ⟨b2, 0, none⟩) n2 n2 := rfl
    have c2' : hdV (⟨n1, n2', n3', ss', es', fs'⟩ : Hd) c1 c2 c3 1 = .slice (some ⟨c2, 0, none⟩) n2' n2' := rfl
    have a3 : hdV (⟨n1, n2, n3, ss, es, fs⟩ : Hd) b1 b2 b3 2 = .slice (some ⟨b3, 0, none⟩) n3 n3 := rfl
    have c3' : hdV (⟨n1, n2', n3', ss', es', fs'⟩ : Hd) c1 c2 c3 2 = .slice (some ⟨c3, 0, none⟩) n3' n3' := rfl
    generalize hdV (⟨n1, n2, n3, ss, es, fs⟩ : Hd) b1 b2 b3 = f1 at a1 a2 a3 ⊢
    generalize hdV (⟨n1, n2', n3', ss', es', fs'⟩ : Hd) c1 c2 c3 = f2 at c1' c2' c3' ⊢
    have hz : ¬ (n2 : Int) = n2' := by omega
    have z2 : decide ((n2 : Int) = n2') = false := decide_eq_false hz
    have Hs := Lib.hid (sameH_2 (d := (⟨n1, n2, n3, ss, es, fs⟩ : Hd)) (d' := (⟨n1, n2', n3', ss', es', fs'⟩ : Hd)) (sameInt16S_len (ys := es) (ys' := es') e2))
    clear e2
    have tk_x1 : True := trivial; have tk_x2 : True := trivial
    go_enter Try.func5, Try.ntmps5
    go_wp2_with (first | (have _t := tk_x1; refine wpList_box rfl _ _ rfl _ _ rfl hM ?_; intro x1 W' hx1 hM'; clear hM tk_x1; have hM := hM'; clear hM') | (have _t := tk_x2; refine wpList_box rfl _ _ rfl _ _ rfl hM ?_; intro x2 W' hx2 hM'; clear hM tk_x2; have hM := hM'; clear hM'; have k1 : W'.cell? ⟨x1, 0, none⟩ = some (.slice (some ⟨b1, 0, none⟩) n1 n1) := ((hM.ats 1 _ _ _ rfl).cell (k := 0) (by omega)).trans (congrArg some a1); have m1 : W'.cell? ⟨x2, 0, none⟩ = some (.slice (some ⟨c1, 0, none⟩) n1 n1) := ((hM.ats 0 _ _ _ rfl).cell (k := 0) (by omega)).trans (congrArg some c1'); have k2 : W'.cell? ⟨x1, 1, none⟩ = some (.slice (some ⟨b2, 0, none⟩) n2 n2) := ((hM.ats 1 _ _ _ rfl).cell (k := 1) (by omega)).trans (congrArg some a2); have m2 : W'.cell? ⟨x2, 1, none⟩ = some (.slice (some ⟨c2, 0, none⟩) n2' n2') := ((hM.ats 0 _ _ _ rfl).cell (k := 1) (by omega)).trans (congrArg some c2'); have k3 : W'.cell? ⟨x1, 2, none⟩ = some (.slice (some ⟨b3, 0, none⟩) n3 n3) := ((hM.ats 1 _ _ _ rfl).cell (k := 2) (by omega)).trans (congrArg some a3); have m3 : W'.cell? ⟨x2, 2, none⟩ = some (.slice (some ⟨c3, 0, none⟩) n3' n3') := ((hM.ats 0 _ _ _ rfl).cell (k := 2) (by omega)).trans (congrArg some c3')))
    go_ret
    exact ⟨ret_bool Hs.out.symm, hM.below⟩
  subst e2
  by_cases e3 : n3 = n3'
  case neg =>
    have a1 : hdV (⟨n1, n2, n3, ss, es, fs⟩ : Hd) b1 b2 b3 0 = .slice (some ⟨b1, 0, none⟩) n1 n1 := rfl
    have c1' : hdV (⟨n1, n2, n3', ss', es', fs'⟩ : Hd) c1 c2 c3 0 = .slice (some ⟨c1, 0, none⟩) n1 n1 := rfl
    have a2 : hdV (⟨n1, n2, n3, ss, es, fs⟩ : Hd) b1 b2 b3 1 = .slice (some ⟨b2, 0, none⟩) n2 n2 := rfl
    have c2' : hdV (⟨n1, n2, n3', ss', es', fs'⟩ : Hd) c1 c2 c3 1 = .slice (some ⟨c2, 0, none⟩) n2 n2 := rfl
    have a3 : hdV (⟨n1, n2, n3, ss, es, fs⟩ : Hd) b1 b2 b3 2 = .slice (some ⟨b3, 0, none⟩) n3 n3 := rfl
    have c3' : hdV (⟨n1, n2, n3', ss', es', fs'⟩ : Hd) c1 c2 c3 2 = .slice (some ⟨c3, 0, none⟩) n3' n3' := rfl
    generalize hdV (⟨n1, n2, n3, ss, es, fs⟩ : Hd) b1 b2 b3 = f1 at a1 a2 a3 ⊢
    generalize hdV (⟨n1, n2, n3', ss', es', fs'⟩ : Hd) c1 c2 c3 = f2 at c1' c2' c3' ⊢
    have hz : ¬ (n3 : Int) = n3' := by omega
    have z3 : decide ((n3 : Int) = n3') = false := decide_eq_false hz
    have Hs := Lib.hid (sameH_3 (d := (⟨n1, n2, n3, ss, es, fs⟩ : Hd)) (d' := (⟨n1, n2, n3', ss', es', fs'⟩ : Hd)) (sameUint16S_len (ys := fs) (ys' := fs') e3))
    clear e3
    have tk_x1 : True := trivial; have tk_x2 : True := trivial
    go_enter Try.func5, Try.ntmps5
    go_wp2_with (first | (have _t := tk_x1; refine wpList_box rfl _ _ rfl _ _ rfl hM ?_; intro x1 W' hx1 hM'; clear hM tk_x1; have hM := hM'; clear hM') | (have _t := tk_x2; refine wpList_box rfl _ _ rfl _ _ rfl hM ?_; intro x2 W' hx2 hM'; clear hM tk_x2; have hM := hM'; clear hM'; have k1 : W'.cell? ⟨x1, 0, none⟩ = some (.slice (some ⟨b1, 0, none⟩) n1 n1) := ((hM.ats 1 _ _ _ rfl).cell (k := 0) (by omega)).trans (congrArg some a1); have m1 : W'.cell? ⟨x2, 0, none⟩ = some (.slice (some ⟨c1, 0, none⟩) n1 n1) := ((hM.ats 0 _ _ _ rfl).cell (k := 0) (by omega)).trans (congrArg some c1'); have k2 : W'.cell? ⟨x1, 1, none⟩ = some (.slice (some ⟨b2, 0, none⟩) n2 n2) := ((hM.ats 1 _ _ _ rfl).cell (k := 1) (by omega)).trans (congrArg some a2); have m2 : W'.cell? ⟨x2, 1, none⟩ = some (.slice (some ⟨c2, 0, none⟩) n2 n2) := ((hM.ats 0 _ _ _ rfl).cell (k := 1) (by omega)).trans (congrArg some c2'); have k3 : W'.cell? ⟨x1, 2, none⟩ = some (.slice (some ⟨b3, 0, none⟩) n3 n3) := ((hM.ats 1 _ _ _ rfl).cell (k := 2) (by omega)).trans (congrArg some a3); have m3 : W'.cell? ⟨x2, 2, none⟩ = some (.slice (some ⟨c3, 0, none⟩) n3' n3') := ((hM.ats 0 _ _ _ rfl).cell (k := 2) (by omega)).trans (congrArg some c3')))
    go_ret
    exact ⟨ret_bool Hs.out.symm, hM.below⟩
  subst e3
  have a1 : hdV (⟨n1, n2, n3, ss, es, fs⟩ : Hd) b1 b2 b3 0 = .slice (some ⟨b1, 0, none⟩) n1 n1 := rfl
  have c1' : hdV (⟨n1, n2, n3, ss', es', fs'⟩ : Hd) c1 c2 c3 0 = .slice (some ⟨c1, 0, none⟩) n1 n1 := rfl
  have a2 : hdV (⟨n1, n2, n3, ss, es, fs⟩ : Hd) b1 b2 b3 1 = .slice (some ⟨b2, 0, none⟩) n2 n2 := rfl
  have c2' : hdV (⟨n1, n2, n3, ss', es', fs'⟩ : Hd) c1 c2 c3 1 = .slice (some ⟨c2, 0, none⟩) n2 n2 := rfl
  have a3 : hdV (⟨n1, n2, n3, ss, es, fs⟩ : Hd) b1 b2 b3 2 = .slice (some ⟨b3, 0, none⟩) n3 n3 := rfl
  have c3' : hdV (⟨n1, n2, n3, ss', es', fs'⟩ : Hd) c1 c2 c3 2 = .slice (some ⟨c3, 0, none⟩) n3 n3 := rfl
  generalize hdV (⟨n1, n2, n3, ss, es, fs⟩ : Hd) b1 b2 b3 = f1 at a1 a2 a3 ⊢
  generalize hdV (⟨n1, n2, n3, ss', es', fs'⟩ : Hd) c1 c2 c3 = f2 at c1' c2' c3' ⊢
  have tk_x1 : True := trivial; have tk_x2 : True := trivial
  go_enter Try.func5, Try.ntmps5
  go_wp2_with (first | (have _t := tk_x1; refine wpList_box rfl _ _ rfl _ _ rfl hM ?_; intro x1 W' hx1 hM'; clear hM tk_x1; have hM := hM'; clear hM') | (have _t := tk_x2; refine wpList_box rfl _ _ rfl _ _ rfl hM ?_; intro x2 W' hx2 hM'; clear hM tk_x2; have hM := hM'; clear hM'; have k1 : W'.cell? ⟨x1, 0, none⟩ = some (.slice (some ⟨b1, 0, none⟩) n1 n1) := ((hM.ats 1 _ _ _ rfl).cell (k := 0) (by omega)).trans (congrArg some a1); have m1 : W'.cell? ⟨x2, 0, none⟩ = some (.slice (some ⟨c1, 0, none⟩) n1 n1) := ((hM.ats 0 _ _ _ rfl).cell (k := 0) (by omega)).trans (congrArg some c1'); have k2 : W'.cell? ⟨x1, 1, none⟩ = some (.slice (some ⟨b2, 0, none⟩) n2 n2) := ((hM.ats 1 _ _ _ rfl).cell (k := 1) (by omega)).trans (congrArg some a2); have m2 : W'.cell? ⟨x2, 1, none⟩ = some (.slice (some ⟨c2, 0, none⟩) n2 n2) := ((hM.ats 0 _ _ _ rfl).cell (k := 1) (by omega)).trans (congrArg some c2'); have k3 : W'.cell? ⟨x1, 2, none⟩ = some (.slice (some ⟨b3, 0, none⟩) n3 n3) := ((hM.ats 1 _ _ _ rfl).cell (k := 2) (by omega)).trans (congrArg some a3); have m3 : W'.cell? ⟨x2, 2, none⟩ = some (.slice (some ⟨c3, 0, none⟩) n3 n3) := ((hM.ats 0 _ _ _ rfl).cell (k := 2) (by omega)).trans (congrArg some c3')))
  go_loopw [5] (fun i wr => ∃ k : Nat, k ≤ n1 ∧ i = .int .i64 k ∧ Hid (∀ j, j < k → eqvStringS (ss j) (ss' j) = true) ∧ Mem w [(x2, 3, f2), (x1, 3, f1), (b1, n1, vStringS ss), (b2, n2, vInt16S es), (b3, n3, vUint16S fs), (c1, n1, vStringS ss'), (c2, n2, vInt16S es'), (c3, n3, vUint16S fs')] wr) (fun i _ => n1 - (intOf i).toNat)
  case atStart => exact ⟨0, by omega, rfl, Lib.hid (fun j hj => absurd hj (by omega)), hM⟩
  case round =>
    clear hM
    obtain ⟨k, hk, rfl, hall, hM⟩ := hrel
    by_cases hlt : k < n1
    case pos =>
      have g2 : (k : Int) < n1 := by omega
      have g3 : decide ((k : Int) < n1) = true := decide_eq_true g2
      have k1 : wr.cell? ⟨x1, 0, none⟩ = some (.slice (some ⟨b1, 0, none⟩) n1 n1) := ((hM.ats 1 _ _ _ rfl).cell (k := 0) (by omega)).trans (congrArg some a1)
      have m1 : wr.cell? ⟨x2, 0, none⟩ = some (.slice (some ⟨c1, 0, none⟩) n1 n1) := ((hM.ats 0 _ _ _ rfl).cell (k := 0) (by omega)).trans (congrArg some c1')
      have k2 : wr.cell? ⟨x1, 1, none⟩ = some (.slice (some ⟨b2, 0, none⟩) n2 n2) := ((hM.ats 1 _ _ _ rfl).cell (k := 1) (by omega)).trans (congrArg some a2)
      have m2 : wr.cell? ⟨x2, 1, none⟩ = some (.slice (some ⟨c2, 0, none⟩) n2 n2) := ((hM.ats 0 _ _ _ rfl).cell (k := 1) (by omega)).trans (congrArg some c2')
      have k3 : wr.cell? ⟨x1, 2, none⟩ = some (.slice (some ⟨b3, 0, none⟩) n3 n3) := ((hM.ats 1 _ _ _ rfl).cell (k := 2) (by omega)).trans (congrArg some a3)
      have m3 : wr.cell? ⟨x2, 2, none⟩ = some (.slice (some ⟨c3, 0, none⟩) n3 n3) := ((hM.ats 0 _ _ _ rfl).cell (k := 2) (by omega)).trans (congrArg some c3')
      have q1 : vStringS ss k = .string (ss k) := rfl
      have q2 : vStringS ss' k = .string (ss' k) := rfl
      cases he : eqvStringS (ss k) (ss' k)
      · have He := Lib.hid he
        unfold eqvStringS at he
        go_wp2
        ((try simp only [Act.put, List.setIfInBounds_toArray, List.set_cons_succ, List.set_cons_zero]); refine wp_region_mem (by kernel_rfl) (by kernel_rfl) hM ?_; clear hM; (repeat (first | go_big_quiet_skip | (go_big_quiet_want; first | (refine quiet_get1 _ _ rfl _ _ rfl 5 rfl cellStringS (by omega) _ q2 ?_; (simp only [Act.put, List.setIfInBounds_toArray, List.set_cons_succ, List.set_cons_zero]); go_big_quiet_on) | (refine quiet_get1 _ _ rfl _ _ rfl 2 rfl cellStringS (by omega) _ q1 ?_; (simp only [Act.put, List.setIfInBounds_toArray, List.set_cons_succ, List.set_cons_zero]); go_big_quiet_on) | (refine quiet_get1 _ _ rfl _ _ rfl 1 rfl cellSS (by omega) _ a1 ?_; (simp only [Act.put, List.setIfInBounds_toArray, List.set_cons_succ, List.set_cons_zero]); go_big_quiet_on) | (refine quiet_get1 _ _ rfl _ _ rfl 0 rfl cellSS (by omega) _ c1' ?_; (simp only [Act.put, List.setIfInBounds_toArray, List.set_cons_succ, List.set_cons_zero]); go_big_quiet_on) | (refine quiet_val ?_; apply Exists.intro; refine ⟨fun W => ?_, ?_⟩; (go_simp; (try simp only [g2, g3, he, if_true, Bool.false_eq_true, if_false]); rfl); (simp only [Act.put, List.setIfInBounds_toArray, List.set_cons_succ, List.set_cons_zero]); go_big_quiet_on)))); (with_reducible refine wpQuiet_nil ?_); intro W' hM)
        go_wp2
        go_ret
        exact ⟨ret_bool (sameH_1 (d := (⟨n1, n2, n3, ss, es, fs⟩ : Hd)) (d' := (⟨n1, n2, n3, ss', es', fs'⟩ : Hd)) (sameStringS_no hlt He.out)).symm, hM.below⟩
      · have He := Lib.hid he
        unfold eqvStringS at he
        go_wp2
        ((try simp only [Act.put, List.setIfInBounds_toArray, List.set_cons_succ, List.set_cons_zero]); refine wp_region_mem (by kernel_rfl) (by kernel_rfl) hM ?_; clear hM; (repeat (first | go_big_quiet_skip | (go_big_quiet_want; first | (refine quiet_get1 _ _ rfl _ _ rfl 5 rfl cellStringS (by omega) _ q2 ?_; (simp only [Act.put, List.setIfInBounds_toArray, List.set_cons_succ, List.set_cons_zero]); go_big_quiet_on) | (refine quiet_get1 _ _ rfl _ _ rfl 2 rfl cellStringS (by omega) _ q1 ?_; (simp only [Act.put, List.setIfInBounds_toArray, List.set_cons_succ, List.set_cons_zero]); go_big_quiet_on) | (refine quiet_get1 _ _ rfl _ _ rfl 1 rfl cellSS (by omega) _ a1 ?_; (simp only [Act.put, List.setIfInBounds_toArray, List.set_cons_succ, List.set_cons_zero]); go_big_quiet_on) | (refine quiet_get1 _ _ rfl _ _ rfl 0 rfl cellSS (by omega) _ c1' ?_; (simp only [Act.put, List.setIfInBounds_toArray, List.set_cons_succ, List.set_cons_zero]); go_big_quiet_on) | (refine quiet_val ?_; apply Exists.intro; refine ⟨fun W => ?_, ?_⟩; (go_simp; (try simp only [g2, g3, he, if_true, Bool.false_eq_true, if_false]); rfl); (simp only [Act.put, List.setIfInBounds_toArray, List.set_cons_succ, List.set_cons_zero]); go_big_quiet_on)))); (with_reducible refine wpQuiet_nil ?_); intro W' hM)
        go_wp2
        go_roundw
        case rel => exact ⟨k + 1, by omega, by go_num, Lib.hid (fun j hj => by
          by_cases e : j = k
          · rw [e]; exact He.out
          · exact hall.out j (by omega)), hM⟩
        case measure => simp [intOf]; omega
    have all1 := Lib.hid (sameStringS_yes (n := n1) (ys := ss) (ys' := ss') (fun i hi => hall.out i (by omega)))
    have g3 : decide ((k : Int) < n1) = false := decide_eq_false (by omega)
    clear hall
    have k1 : wr.cell? ⟨x1, 0, none⟩ = some (.slice (some ⟨b1, 0, none⟩) n1 n1) := ((hM.ats 1 _ _ _ rfl).cell (k := 0) (by omega)).trans (congrArg some a1)
    have m1 : wr.cell? ⟨x2, 0, none⟩ = some (.slice (some ⟨c1, 0, none⟩) n1 n1) := ((hM.ats 0 _ _ _ rfl).cell (k := 0) (by omega)).trans (congrArg some c1')
    have k2 : wr.cell? ⟨x1, 1, none⟩ = some (.slice (some ⟨b2, 0, none⟩) n2 n2) := ((hM.ats 1 _ _ _ rfl).cell (k := 1) (by omega)).trans (congrArg some a2)
    have m2 : wr.cell? ⟨x2, 1, none⟩ = some (.slice (some ⟨c2, 0, none⟩) n2 n2) := ((hM.ats 0 _ _ _ rfl).cell (k := 1) (by omega)).trans (congrArg some c2')
    have k3 : wr.cell? ⟨x1, 2, none⟩ = some (.slice (some ⟨b3, 0, none⟩) n3 n3) := ((hM.ats 1 _ _ _ rfl).cell (k := 2) (by omega)).trans (congrArg some a3)
    have m3 : wr.cell? ⟨x2, 2, none⟩ = some (.slice (some ⟨c3, 0, none⟩) n3 n3) := ((hM.ats 0 _ _ _ rfl).cell (k := 2) (by omega)).trans (congrArg some c3')
    go_wp2
    go_loopw [6] (fun i wr => ∃ k : Nat, k ≤ n2 ∧ i = .int .i64 k ∧ Hid (∀ j, j < k → eqvInt16S (es j) (es' j) = true) ∧ Mem w [(x2, 3, f2), (x1, 3, f1), (b1, n1, vStringS ss), (b2, n2, vInt16S es), (b3, n3, vUint16S fs), (c1, n1, vStringS ss'), (c2, n2, vInt16S es'), (c3, n3, vUint16S fs')] wr) (fun i _ => n2 - (intOf i).toNat)
    case atStart => exact ⟨0, by omega, rfl, Lib.hid (fun j hj => absurd hj (by omega)), hM⟩
    case round =>
      clear hM
      obtain ⟨k, hk, rfl, hall, hM⟩ := hrel
      by_cases hlt : k < n2
      case pos =>
        have g2 : (k : Int) < n2 := by omega
        have g3 : decide ((k : Int) < n2) = true := decide_eq_true g2
        have k1 : wr.cell? ⟨x1, 0, none⟩ = some (.slice (some ⟨b1, 0, none⟩) n1 n1) := ((hM.ats 1 _ _ _ rfl).cell (k := 0) (by omega)).trans (congrArg some a1)
        have m1 : wr.cell? ⟨x2, 0, none⟩ = some (.slice (some ⟨c1, 0, none⟩) n1 n1) := ((hM.ats 0 _ _ _ rfl).cell (k := 0) (by omega)).trans (congrArg some c1')
        have k2 : wr.cell? ⟨x1, 1, none⟩ = some (.slice (some ⟨b2, 0, none⟩) n2 n2) := ((hM.ats 1 _ _ _ rfl).cell (k := 1) (by omega)).trans (congrArg some a2)
        have m2 : wr.cell? ⟨x2, 1, none⟩ = some (.slice (some ⟨c2, 0, none⟩) n2 n2) := ((hM.ats 0 _ _ _ rfl).cell (k := 1) (by omega)).trans (congrArg some c2')
        have k3 : wr.cell? ⟨x1, 2, none⟩ = some (.slice (some ⟨b3, 0, none⟩) n3 n3) := ((hM.ats 1 _ _ _ rfl).cell (k := 2) (by omega)).trans (congrArg some a3)
        have m3 : wr.cell? ⟨x2, 2, none⟩ = some (.slice (some ⟨c3, 0, none⟩) n3 n3) := ((hM.ats 0 _ _ _ rfl).cell (k := 2) (by omega)).trans (congrArg some c3')
        have q1 : vInt16S es k = .int .i16 (es k) := rfl
        have q2 : vInt16S es' k = .int .i16 (es' k) := rfl
        cases he : eqvInt16S (es k) (es' k)
        · have He := Lib.hid he
          unfold eqvInt16S at he
          have hb : (es k != es' k) = true := by rw [bne, he]; rfl
          go_wp2
          ((try simp only [Act.put, List.setIfInBounds_toArray, List.set_cons_succ, List.set_cons_zero]); refine wp_region_mem (by kernel_rfl) (by kernel_rfl) hM ?_; clear hM; (repeat (first | go_big_quiet_skip | (go_big_quiet_want; first | (refine quiet_get1 _ _ rfl _ _ rfl 6 rfl cellInt16S (by omega) _ q2 ?_; (simp only [Act.put, List.setIfInBounds_toArray, List.set_cons_succ, List.set_cons_zero]); go_big_quiet_on) | (refine quiet_get1 _ _ rfl _ _ rfl 3 rfl cellInt16S (by omega) _ q1 ?_; (simp only [Act.put, List.setIfInBounds_toArray, List.set_cons_succ, List.set_cons_zero]); go_big_quiet_on) | (refine quiet_get1 _ _ rfl _ _ rfl 1 rfl cellES (by omega) _ a2 ?_; (simp only [Act.put, List.setIfInBounds_toArray, List.set_cons_succ, List.set_cons_zero]); go_big_quiet_on) | (refine quiet_get1 _ _ rfl _ _ rfl 0 rfl cellES (by omega) _ c2' ?_; (simp only [Act.put, List.setIfInBounds_toArray, List.set_cons_succ, List.set_cons_zero]); go_big_quiet_on) | (refine quiet_val ?_; apply Exists.intro; refine ⟨fun W => ?_, ?_⟩; (go_simp; (try simp only [g2, g3, hb, if_true, Bool.false_eq_true, if_false]); rfl); (simp only [Act.put, List.setIfInBounds_toArray, List.set_cons_succ, List.set_cons_zero]); go_big_quiet_on)))); (with_reducible refine wpQuiet_nil ?_); intro W' hM)
          go_wp2
          go_ret
          exact ⟨ret_bool (sameH_2 (d := (⟨n1, n2, n3, ss, es, fs⟩ : Hd)) (d' := (⟨n1, n2, n3, ss', es', fs'⟩ : Hd)) (sameInt16S_no hlt He.out)).symm, hM.below⟩
        · have He := Lib.hid he
          unfold eqvInt16S at he
          have hb : (es k != es' k) = false := by rw [bne, he]; rfl
          go_wp2
          ((try simp only [Act.put, List.setIfInBounds_toArray, List.set_cons_succ, List.set_cons_zero]); refine wp_region_mem (by kernel_rfl) (by kernel_rfl) hM ?_; clear hM; (repeat (first | go_big_quiet_skip | (go_big_quiet_want; first | (refine quiet_get1 _ _ rfl _ _ rfl 6 rfl cellInt16S (by omega) _ q2 ?_; (simp only [Act.put, List.setIfInBounds_toArray, List.set_cons_succ, List.set_cons_zero]); go_big_quiet_on) | (refine quiet_get1 _ _ rfl _ _ rfl 3 rfl cellInt16S (by omega) _ q1 ?_; (simp only [Act.put, List.setIfInBounds_toArray, List.set_cons_succ, List.set_cons_zero]); go_big_quiet_on) | (refine quiet_get1 _ _ rfl _ _ rfl 1 rfl cellES (by omega) _ a2 ?_; (simp only [Act.put, List.setIfInBounds_toArray, List.set_cons_succ, List.set_cons_zero]); go_big_quiet_on) | (refine quiet_get1 _ _ rfl _ _ rfl 0 rfl cellES (by omega) _ c2' ?_; (simp only [Act.put, List.setIfInBounds_toArray, List.set_cons_succ, List.set_cons_zero]); go_big_quiet_on) | (refine quiet_val ?_; apply Exists.intro; refine ⟨fun W => ?_, ?_⟩; (go_simp; (try simp only [g2, g3, hb, if_true, Bool.false_eq_true, if_false]); rfl); (simp only [Act.put, List.setIfInBounds_toArray, List.set_cons_succ, List.set_cons_zero]); go_big_quiet_on)))); (with_reducible refine wpQuiet_nil ?_); intro W' hM)
          go_wp2
          go_roundw
          case rel => exact ⟨k + 1, by omega, by go_num, Lib.hid (fun j hj => by
            by_cases e : j = k
            · rw [e]; exact He.out
            · exact hall.out j (by omega)), hM⟩
          case measure => simp [intOf]; omega
      have all2 := Lib.hid (sameInt16S_yes (n := n2) (ys := es) (ys' := es') (fun i hi => hall.out i (by omega)))
      have g3 : decide ((k : Int) < n2) = false := decide_eq_false (by omega)
      clear hall
      have k1 : wr.cell? ⟨x1, 0, none⟩ = some (.slice (some ⟨b1, 0, none⟩) n1 n1) := ((hM.ats 1 _ _ _ rfl).cell (k := 0) (by omega)).trans (congrArg some a1)
      have m1 : wr.cell? ⟨x2, 0, none⟩ = some (.slice (some ⟨c1, 0, none⟩) n1 n1) := ((hM.ats 0 _ _ _ rfl).cell (k := 0) (by omega)).trans (congrArg some c1')
      have k2 : wr.cell? ⟨x1, 1, none⟩ = some (.slice (some ⟨b2, 0, none⟩) n2 n2) := ((hM.ats 1 _ _ _ rfl).cell (k := 1) (by omega)).trans (congrArg some a2)
      have m2 : wr.cell? ⟨x2, 1, none⟩ = some (.slice (some ⟨c2, 0, none⟩) n2 n2) := ((hM.ats 0 _ _ _ rfl).cell (k := 1) (by omega)).trans (congrArg some c2')
      have k3 : wr.cell? ⟨x1, 2, none⟩ = some (.slice (some ⟨b3, 0, none⟩) n3 n3) := ((hM.ats 1 _ _ _ rfl).cell (k := 2) (by omega)).trans (congrArg some a3)
      have m3 : wr.cell? ⟨x2, 2, none⟩ = some (.slice (some ⟨c3, 0, none⟩) n3 n3) := ((hM.ats 0 _ _ _ rfl).cell (k := 2) (by omega)).trans (congrArg some c3')
      go_wp2
      go_loopw [7] (fun i wr => ∃ k : Nat, k ≤ n3 ∧ i = .int .i64 k ∧ Hid (∀ j, j < k → eqvUint16S (fs j) (fs' j) = true) ∧ Mem w [(x2, 3, f2), (x1, 3, f1), (b1, n1, vStringS ss), (b2, n2, vInt16S es), (b3, n3, vUint16S fs), (c1, n1, vStringS ss'), (c2, n2, vInt16S es'), (c3, n3, vUint16S fs')] wr) (fun i _ => n3 - (intOf i).toNat)
      case atStart => exact ⟨0, by omega, rfl, Lib.hid (fun j hj => absurd hj (by omega)), hM⟩
      case round =>
        clear hM
        obtain ⟨k, hk, rfl, hall, hM⟩ := hrel
        by_cases hlt : k < n3
        case pos =>
          have g2 : (k : Int) < n3 := by omega
          have g3 : decide ((k : Int) < n3) = true := decide_eq_true g2
          have k1 : wr.cell? ⟨x1, 0, none⟩ = some (.slice (some ⟨b1, 0, none⟩) n1 n1) := ((hM.ats 1 _ _ _ rfl).cell (k := 0) (by omega)).trans (congrArg some a1)
          have m1 : wr.cell? ⟨x2, 0, none⟩ = some (.slice (some ⟨c1, 0, none⟩) n1 n1) := ((hM.ats 0 _ _ _ rfl).cell (k := 0) (by omega)).trans (congrArg some c1')
          have k2 : wr.cell? ⟨x1, 1, none⟩ = some (.slice (some ⟨b2, 0, none⟩) n2 n2) := ((hM.ats 1 _ _ _ rfl).cell (k := 1) (by omega)).trans (congrArg some a2)
          have m2 : wr.cell? ⟨x2, 1, none⟩ = some (.slice (some ⟨c2, 0, none⟩) n2 n2) := ((hM.ats 0 _ _ _ rfl).cell (k := 1) (by omega)).trans (congrArg some c2')
          have k3 : wr.cell? ⟨x1, 2, none⟩ = some (.slice (some ⟨b3, 0, none⟩) n3 n3) := ((hM.ats 1 _ _ _ rfl).cell (k := 2) (by omega)).trans (congrArg some a3)
          have m3 : wr.cell? ⟨x2, 2, none⟩ = some (.slice (some ⟨c3, 0, none⟩) n3 n3) := ((hM.ats 0 _ _ _ rfl).cell (k := 2) (by omega)).trans (congrArg some c3')
          have q1 : vUint16S fs k = .int .u16 (fs k) := rfl
          have q2 : vUint16S fs' k = .int .u16 (fs' k) := rfl
          cases he : eqvUint16S (fs k) (fs' k)
          · have He := Lib.hid he
            unfold eqvUint16S at he
            have hb : (fs k != fs' k) = true := by rw [bne, he]; rfl
            go_wp2
            ((try simp only [Act.put, List.setIfInBounds_toArray, List.set_cons_succ, List.set_cons_zero]); refine wp_region_mem (by kernel_rfl) (by kernel_rfl) hM ?_; clear hM; (repeat (first | go_big_quiet_skip | (go_big_quiet_want; first | (refine quiet_get1 _ _ rfl _ _ rfl 7 rfl cellUint16S (by omega) _ q2 ?_; (simp only [Act.put, List.setIfInBounds_toArray, List.set_cons_succ, List.set_cons_zero]); go_big_quiet_on) | (refine quiet_get1 _ _ rfl _ _ rfl 4 rfl cellUint16S (by omega) _ q1 ?_; (simp only [Act.put, List.setIfInBounds_toArray, List.set_cons_succ, List.set_cons_zero]); go_big_quiet_on) | (refine quiet_get1 _ _ rfl _ _ rfl 1 rfl cellFS (by omega) _ a3 ?_; (simp only [Act.put, List.setIfInBounds_toArray, List.set_cons_succ, List.set_cons_zero]); go_big_quiet_on) | (refine quiet_get1 _ _ rfl _ _ rfl 0 rfl cellFS (by omega) _ c3' ?_; (simp only [Act.put, List.setIfInBounds_toArray, List.set_cons_succ, List.set_cons_zero]); go_big_quiet_on) | (refine quiet_val ?_; apply Exists.intro; refine ⟨fun W => ?_, ?_⟩; (go_simp; (try simp only [g2, g3, hb, if_true, Bool.false_eq_true, if_false]); rfl); (simp only [Act.put, List.setIfInBounds_toArray, List.set_cons_succ, List.set_cons_zero]); go_big_quiet_on)))); (with_reducible refine wpQuiet_nil ?_); intro W' hM)
            go_wp2
            go_ret
            exact ⟨ret_bool (sameH_3 (d := (⟨n1, n2, n3, ss, es, fs⟩ : Hd)) (d' := (⟨n1, n2, n3, ss', es', fs'⟩ : Hd)) (sameUint16S_no hlt He.out)).symm, hM.below⟩
          · have He := Lib.hid he
            unfold eqvUint16S at he
            have hb : (fs k != fs' k) = false := by rw [bne, he]; rfl
            go_wp2
            ((try simp only [Act.put, List.setIfInBounds_toArray, List.set_cons_succ, List.set_cons_zero]); refine wp_region_mem (by kernel_rfl) (by kernel_rfl) hM ?_; clear hM; (repeat (first | go_big_quiet_skip | (go_big_quiet_want; first | (refine quiet_get1 _ _ rfl _ _ rfl 7 rfl cellUint16S (by omega) _ q2 ?_; (simp only [Act.put, List.setIfInBounds_toArray, List.set_cons_succ, List.set_cons_zero]); go_big_quiet_on) | (refine quiet_get1 _ _ rfl _ _ rfl 4 rfl cellUint16S (by omega) _ q1 ?_; (simp only [Act.put, List.setIfInBounds_toArray, List.set_cons_succ, List.set_cons_zero]); go_big_quiet_on) | (refine quiet_get1 _ _ rfl _ _ rfl 1 rfl cellFS (by omega) _ a3 ?_; (simp only [Act.put, List.setIfInBounds_toArray, List.set_cons_succ, List.set_cons_zero]); go_big_quiet_on) | (refine quiet_get1 _ _ rfl _ _ rfl 0 rfl cellFS (by omega) _ c3' ?_; (simp only [Act.put, List.setIfInBounds_toArray, List.set_cons_succ, List.set_cons_zero]); go_big_quiet_on) | (refine quiet_val ?_; apply Exists.intro; refine ⟨fun W => ?_, ?_⟩; (go_simp; (try simp only [g2, g3, hb, if_true, Bool.false_eq_true, if_false]); rfl); (simp only [Act.put, List.setIfInBounds_toArray, List.set_cons_succ, List.set_cons_zero]); go_big_quiet_on)))); (with_reducible refine wpQuiet_nil ?_); intro W' hM)
            go_wp2
            go_roundw
            case rel => exact ⟨k + 1, by omega, by go_num, Lib.hid (fun j hj => by
              by_cases e : j = k
              · rw [e]; exact He.out
              · exact hall.out j (by omega)), hM⟩
            case measure => simp [intOf]; omega
        have all3 := Lib.hid (sameUint16S_yes (n := n3) (ys := fs) (ys' := fs') (fun i hi => hall.out i (by omega)))
        have g3 : decide ((k : Int) < n3) = false := decide_eq_false (by omega)
        clear hall
        have k1 : wr.cell? ⟨x1, 0, none⟩ = some (.slice (some ⟨b1, 0, none⟩) n1 n1) := ((hM.ats 1 _ _ _ rfl).cell (k := 0) (by omega)).trans (congrArg some a1)
        have m1 : wr.cell? ⟨x2, 0, none⟩ = some (.slice (some ⟨c1, 0, none⟩) n1 n1) := ((hM.ats 0 _ _ _ rfl).cell (k := 0) (by omega)).trans (congrArg some c1')
        have k2 : wr.cell? ⟨x1, 1, none⟩ = some (.slice (some ⟨b2, 0, none⟩) n2 n2) := ((hM.ats 1 _ _ _ rfl).cell (k := 1) (by omega)).trans (congrArg some a2)
        have m2 : wr.cell? ⟨x2, 1, none⟩ = some (.slice (some ⟨c2, 0, none⟩) n2 n2) := ((hM.ats 0 _ _ _ rfl).cell (k := 1) (by omega)).trans (congrArg some c2')
        have k3 : wr.cell? ⟨x1, 2, none⟩ = some (.slice (some ⟨b3, 0, none⟩) n3 n3) := ((hM.ats 1 _ _ _ rfl).cell (k := 2) (by omega)).trans (congrArg some a3)
        have m3 : wr.cell? ⟨x2, 2, none⟩ = some (.slice (some ⟨c3, 0, none⟩) n3 n3) := ((hM.ats 0 _ _ _ rfl).cell (k := 2) (by omega)).trans (congrArg some c3')
        go_wp2
        go_ret
        exact ⟨ret_bool (sameH_yes (d := (⟨n1, n2, n3, ss, es, fs⟩ : Hd)) (d' := (⟨n1, n2, n3, ss', es', fs'⟩ : Hd)) all1.out all2.out all3.out).symm, hM.below⟩

end Go.Proofs.Ythonhjbkjgeofaa
