/-
  impl.SameHerd by contract.
-/
import Derived.Test.YthonhjbkjgeofaaSameH
namespace Go.Proofs.Ythonhjbkjgeofaa
open Go Go.RowKit Go.BigFrame Go.ChangeShapes Go.WideShapes Go.Deep

set_option maxRecDepth 100000 in
set_option maxHeartbeats 2000000 in
theorem implSameHerd_any (d d' : Hd) (b1 b2 b3 c1 c2 c3 : Nat) (hd : FitsH d) (hd' : FitsH d') (w : World) (hM0 : Mem w (hdB d b1 b2 b3 ++ hdB d' c1 c2 c3) w) :
    Calls Try.prog 7 #[.agg (arr 3 (hdV d b1 b2 b3)), .agg (arr 3 (hdV d' c1 c2 c3))] w fun e w' => e = .returned (.bool (sameH d d')) ∧ Below w.heap.size w w' := by
  obtain ⟨l1, l2, l3, -, -, -⟩ := hd
  obtain ⟨m1, m2, m3, -, -, -⟩ := hd'
  have hM := hM0
  simp only [hdB, List.cons_append, List.nil_append] at hM
  clear hM0
  have a1 : hdV d b1 b2 b3 0 = .slice (some ⟨b1, 0, none⟩) d.n1 d.n1 := rfl
  have c1' : hdV d' c1 c2 c3 0 = .slice (some ⟨c1, 0, none⟩) d'.n1 d'.n1 := rfl
  have a2 : hdV d b1 b2 b3 1 = .slice (some ⟨b2, 0, none⟩) d.n2 d.n2 := rfl
  have c2' : hdV d' c1 c2 c3 1 = .slice (some ⟨c2, 0, none⟩) d'.n2 d'.n2 := rfl
  have a3 : hdV d b1 b2 b3 2 = .slice (some ⟨b3, 0, none⟩) d.n3 d.n3 := rfl
  have c3' : hdV d' c1 c2 c3 2 = .slice (some ⟨c3, 0, none⟩) d'.n3 d'.n3 := rfl
  generalize hdV d b1 b2 b3 = f1 at a1 a2 a3 ⊢
  generalize hdV d' c1 c2 c3 = f2 at c1' c2' c3' ⊢
  cases h1 : sameStringS d.n1 d'.n1 d.ss d'.ss
  case false =>
    have H1 := Lib.hid h1
    clear h1
    have tk_x1 : True := trivial; have tk_x2 : True := trivial
    go_enter Try.func7, Try.ntmps7
    go_wp2_with (first | (have _t := tk_x1; refine wpList_box rfl _ _ rfl _ _ rfl hM ?_; intro x1 W' hx1 hM'; clear hM tk_x1; have hM := hM'; clear hM') | (have _t := tk_x2; refine wpList_box rfl _ _ rfl _ _ rfl hM ?_; intro x2 W' hx2 hM'; clear hM tk_x2; have hM := hM'; clear hM') | (refine wpList_get1 rfl _ _ rfl _ _ rfl hM 1 rfl cellSS (by omega) _ a1 ?_) | (refine wpList_get1 rfl _ _ rfl _ _ rfl hM 0 rfl cellSS (by omega) _ c1' ?_) | (refine wpList_gget1 ?_ _ _ rfl _ _ rfl hM 1 rfl cellES (by omega) _ a2 ?_; kernel_rfl) | (refine wpList_gget1 ?_ _ _ rfl _ _ rfl hM 0 rfl cellES (by omega) _ c2' ?_; kernel_rfl) | (refine wpList_gget1 ?_ _ _ rfl _ _ rfl hM 1 rfl cellFS (by omega) _ a3 ?_; kernel_rfl) | (refine wpList_gget1 ?_ _ _ rfl _ _ rfl hM 0 rfl cellFS (by omega) _ c3' ?_; kernel_rfl) | (go_at_call 15; (with_reducible refine (equalStringS b1 c1 d.n1 d'.n1 d.n1 d'.n1 d.ss d'.ss l1 m1 _ (hM.ats 2 _ _ _ rfl) (hM.ats 5 _ _ _ rfl) (hM.apart 2 5 _ _ rfl rfl (by omega))).mono ?_); rintro e W' ⟨rfl, hb'⟩; rw [H1.out]; have hM' := hM.call hb'; clear hM hb'; have hM := hM'; clear hM'))
    go_ret
    exact ⟨ret_bool (sameH_1 H1.out).symm, hM.below⟩
  have H1 := Lib.hid h1
  clear h1
  cases h2 : sameInt16S d.n2 d'.n2 d.es d'.es
  case false =>
    have H2 := Lib.hid h2
    clear h2
    have tk_x1 : True := trivial; have tk_x2 : True := trivial
    go_enter Try.func7, Try.ntmps7
    go_wp2_with (first | (have _t := tk_x1; refine wpList_box rfl _ _ rfl _ _ rfl hM ?_; intro x1 W' hx1 hM'; clear hM tk_x1; have hM := hM'; clear hM') | (have _t := tk_x2; refine wpList_box rfl _ _ rfl _ _ rfl hM ?_; intro x2 W' hx2 hM'; clear hM tk_x2; have hM := hM'; clear hM') | (refine wpList_get1 rfl _ _ rfl _ _ rfl hM 1 rfl cellSS (by omega) _ a1 ?_) | (refine wpList_get1 rfl _ _ rfl _ _ rfl hM 0 rfl cellSS (by omega) _ c1' ?_) | (refine wpList_gget1 ?_ _ _ rfl _ _ rfl hM 1 rfl cellES (by omega) _ a2 ?_; kernel_rfl) | (refine wpList_gget1 ?_ _ _ rfl _ _ rfl hM 0 rfl cellES (by omega) _ c2' ?_; kernel_rfl) | (refine wpList_gget1 ?_ _ _ rfl _ _ rfl hM 1 rfl cellFS (by omega) _ a3 ?_; kernel_rfl) | (refine wpList_gget1 ?_ _ _ rfl _ _ rfl hM 0 rfl cellFS (by omega) _ c3' ?_; kernel_rfl) | (go_at_call 15; (with_reducible refine (equalStringS b1 c1 d.n1 d'.n1 d.n1 d'.n1 d.ss d'.ss l1 m1 _ (hM.ats 2 _ _ _ rfl) (hM.ats 5 _ _ _ rfl) (hM.apart 2 5 _ _ rfl rfl (by omega))).mono ?_); rintro e W' ⟨rfl, hb'⟩; rw [H1.out]; have hM' := hM.call hb'; clear hM hb'; have hM := hM'; clear hM') | (go_at_call 16; (with_reducible refine (equalInt16S b2 c2 d.n2 d'.n2 d.n2 d'.n2 d.es d'.es l2 m2 _ (hM.ats 3 _ _ _ rfl) (hM.ats 6 _ _ _ rfl) (hM.apart 3 6 _ _ rfl rfl (by omega))).mono ?_); rintro e W' ⟨rfl, hb'⟩; rw [H2.out]; have hM' := hM.call hb'; clear hM hb'; have hM := hM'; clear hM'))
    go_ret
    exact ⟨ret_bool (sameH_2 H2.out).symm, hM.below⟩
  have H2 := Lib.hid h2
  clear h2
  cases h3 : sameUint16S d.n3 d'.n3 d.fs d'.fs
  case false =>
    have H3 := Lib.hid h3
    clear h3
    have tk_x1 : True := trivial; have tk_x2 : True := trivial
    go_enter Try.func7, Try.ntmps7
    go_wp2_with (first | (have _t := tk_x1; refine wpList_box rfl _ _ rfl _ _ rfl hM ?_; intro x1 W' hx1 hM'; clear hM tk_x1; have hM := hM'; clear hM') | (have _t := tk_x2; refine wpList_box rfl _ _ rfl _ _ rfl hM ?_; intro x2 W' hx2 hM'; clear hM tk_x2; have hM := hM'; clear hM') | (refine wpList_get1 rfl _ _ rfl _ _ rfl hM 1 rfl cellSS (by omega) _ a1 ?_) | (refine wpList_get1 rfl _ _ rfl _ _ rfl hM 0 rfl cellSS (by omega) _ c1' ?_) | (refine wpList_gget1 ?_ _ _ rfl _ _ rfl hM 1 rfl cellES (by omega) _ a2 ?_; kernel_rfl) | (refine wpList_gget1 ?_ _ _ rfl _ _ rfl hM 0 rfl cellES (by omega) _ c2' ?_; kernel_rfl) | (refine wpList_gget1 ?_ _ _ rfl _ _ rfl hM 1 rfl cellFS (by omega) _ a3 ?_; kernel_rfl) | (refine wpList_gget1 ?_ _ _ rfl _ _ rfl hM 0 rfl cellFS (by omega) _ c3' ?_; kernel_rfl) | (go_at_call 15; (with_reducible refine (equalStringS b1 c1 d.n1 d'.n1 d.n1 d'.n1 d.ss d'.ss l1 m1 _ (hM.ats 2 _ _ _ rfl) (hM.ats 5 _ _ _ rfl) (hM.apart 2 5 _ _ rfl rfl (by omega))).mono ?_); rintro e W' ⟨rfl, hb'⟩; rw [H1.out]; have hM' := hM.call hb'; clear hM hb'; have hM := hM'; clear hM') | (go_at_call 16; (with_reducible refine (equalInt16S b2 c2 d.n2 d'.n2 d.n2 d'.n2 d.es d'.es l2 m2 _ (hM.ats 3 _ _ _ rfl) (hM.ats 6 _ _ _ rfl) (hM.apart 3 6 _ _ rfl rfl (by omega))).mono ?_); rintro e W' ⟨rfl, hb'⟩; rw [H2.out]; have hM' := hM.call hb'; clear hM hb'; have hM := hM'; clear hM') | (go_at_call 17; (with_reducible refine (equalUint16S b3 c3 d.n3 d'.n3 d.n3 d'.n3 d.fs d'.fs l3 m3 _ (hM.ats 4 _ _ _ rfl) (hM.ats 7 _ _ _ rfl) (hM.apart 4 7 _ _ rfl rfl (by omega))).mono ?_); rintro e W' ⟨rfl, hb'⟩; rw [H3.out]; have hM' := hM.call hb'; clear hM hb'; have hM := hM'; clear hM'))
    go_ret
    exact ⟨ret_bool (sameH_3 H3.out).symm, hM.below⟩
  have H3 := Lib.hid h3
  clear h3
  have tk_x1 : True := trivial; have tk_x2 : True := trivial
  go_enter Try.func7, Try.ntmps7
  go_wp2_with (first | (have _t := tk_x1; refine wpList_box rfl _ _ rfl _ _ rfl hM ?_; intro x1 W' hx1 hM'; clear hM tk_x1; have hM := hM'; clear hM') | (have _t := tk_x2; refine wpList_box rfl _ _ rfl _ _ rfl hM ?_; intro x2 W' hx2 hM'; clear hM tk_x2; have hM := hM'; clear hM') | (refine wpList_get1 rfl _ _ rfl _ _ rfl hM 1 rfl cellSS (by omega) _ a1 ?_) | (refine wpList_get1 rfl _ _ rfl _ _ rfl hM 0 rfl cellSS (by omega) _ c1' ?_) | (refine wpList_gget1 ?_ _ _ rfl _ _ rfl hM 1 rfl cellES (by omega) _ a2 ?_; kernel_rfl) | (refine wpList_gget1 ?_ _ _ rfl _ _ rfl hM 0 rfl cellES (by omega) _ c2' ?_; kernel_rfl) | (refine wpList_gget1 ?_ _ _ rfl _ _ rfl hM 1 rfl cellFS (by omega) _ a3 ?_; kernel_rfl) | (refine wpList_gget1 ?_ _ _ rfl _ _ rfl hM 0 rfl cellFS (by omega) _ c3' ?_; kernel_rfl) | (go_at_call 15; (with_reducible refine (equalStringS b1 c1 d.n1 d'.n1 d.n1 d'.n1 d.ss d'.ss l1 m1 _ (hM.ats 2 _ _ _ rfl) (hM.ats 5 _ _ _ rfl) (hM.apart 2 5 _ _ rfl rfl (by omega))).mono ?_); rintro e W' ⟨rfl, hb'⟩; rw [H1.out]; have hM' := hM.call hb'; clear hM hb'; have hM := hM'; clear hM') | (go_at_call 16; (with_reducible refine (equalInt16S b2 c2 d.n2 d'.n2 d.n2 d'.n2 d.es d'.es l2 m2 _ (hM.ats 3 _ _ _ rfl) (hM.ats 6 _ _ _ rfl) (hM.apart 3 6 _ _ rfl rfl (by omega))).mono ?_); rintro e W' ⟨rfl, hb'⟩; rw [H2.out]; have hM' := hM.call hb'; clear hM hb'; have hM := hM'; clear hM') | (go_at_call 17; (with_reducible refine (equalUint16S b3 c3 d.n3 d'.n3 d.n3 d'.n3 d.fs d'.fs l3 m3 _ (hM.ats 4 _ _ _ rfl) (hM.ats 7 _ _ _ rfl) (hM.apart 4 7 _ _ rfl rfl (by omega))).mono ?_); rintro e W' ⟨rfl, hb'⟩; rw [H3.out]; have hM' := hM.call hb'; clear hM hb'; have hM := hM'; clear hM'))
  go_ret
  exact ⟨ret_bool (sameH_yes H1.out H2.out H3.out).symm, hM.below⟩
end Go.Proofs.Ythonhjbkjgeofaa
