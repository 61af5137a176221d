/-
  Several texts in one: FoesOfC, GroupsI, ChkC.
-/
import Derived.Test.YthodkbmenndnoaaDoorP12
import Derived.Test.YthodkbmenndnoaaDoorP13
/-
  spec.FoesOf, impl.FoesOf by contracts.
-/
namespace Go.Proofs.YthodkbmenndnoaaDoor
open Go Go.RowKit Go.BigFrame

def oneY (x : Int) : Nat → Int := fun _ => x
def foesC (d : Hd) (x : Int) : Int := askC d 1 (oneY x)
def foesL (d : Hd) (x : Int) : List Nat := if foesC d x = 0 then bitsL (d.fs x.toNat).toNat else []
theorem lit1_ints {x : Int} {W : World} {b : Nat} {F : Nat → Value} (h : At W b 1 F) (hF : F = fun _ => .int .i64 x) : IntsAt W (some ⟨b, 0, none⟩) 1 (oneY x) :=
  .inr ⟨b, 1, F, rfl, by omega, fun j _ => by rw [hF]; rfl, h⟩
theorem foes_0 {d : Hd} {x : Int} (h : foesC d x = 0) : HerdOk d ∧ (∀ j, j < 1 → 0 ≤ oneY x j ∧ oneY x j < d.n1) ∧ foesL d x = bitsL (d.fs x.toNat).toNat ∧ ∃ i : Nat, x = i ∧ i < d.n1 := by
  obtain ⟨h1, h2⟩ := askC_0 h
  have hx := h2 0 (by omega)
  simp only [oneY] at hx
  refine ⟨h1, h2, by unfold foesL; rw [if_pos h], x.toNat, ?_⟩
  omega
theorem foes_no {d : Hd} {x : Int} (h : foesC d x ≠ 0) : foesL d x = [] := by unfold foesL; rw [if_neg h]
/-- What comes of it. -/
def GivesF2 (l : List Nat) (c : Int) (w : World) (e : Ending) (w' : World) : Prop := GivesR 1 l.length (vInt64S (numsF (natI l))) c w e w'
theorem GivesF2.none {l : List Nat} {cc cc' : Int} {w w' : World} {a : Option Addr} {c : Nat} (hb : Below w.heap.size w w') (hn : l = []) (hc : cc' = cc) : GivesF2 l cc w (.returned (.tuple #[.slice a 0 c, .int .i64 cc'])) w' := GivesR.none hb (by rw [hn]; rfl) hc
theorem GivesF2.some {l : List Nat} {w w' : World} {v : Value} (h : Lst w [] 1 v l.length (vI (natI l)) w') : GivesF2 l 0 w (.returned (.tuple #[v, .int .i64 0])) w' := ⟨v, rfl, h.newL⟩
/-- The foes of a goat, found one by one. -/
def foeU (d : Hd) (i : Nat) : Nat → List Nat
  | 0 => []
  | k + 1 => if foe d i k then foeU d i k ++ [k] else foeU d i k
theorem foeU_eq (d : Hd) (i : Nat) : ∀ n, foeU d i n = (List.range n).filter fun k => foe d i k
  | 0 => rfl
  | n + 1 => by
    rw [List.range_succ, List.filter_append, ← foeU_eq d i n]
    simp only [foeU, List.filter_cons, List.filter_nil]
    cases foe d i n <;> simp
theorem foeU_len (d : Hd) (i n : Nat) : (foeU d i n).length ≤ n := by
  rw [foeU_eq]
  have := List.length_filter_le (fun k => foe d i k) (List.range n)
  simpa using this
theorem foeU_bits {d : Hd} {i n : Nat} (hn : n ≤ 16) (h : (d.fs i).toNat < 2 ^ n) : foeU d i n = bitsL (d.fs i).toNat := by
  rw [foeU_eq]
  unfold bitsL
  have e : List.range 16 = List.range n ++ (List.range (16 - n)).map (n + ·) := by rw [← List.range_add]; congr 1; omega
  rw [e, List.filter_append]
  have e2 : ((List.range (16 - n)).map (n + ·)).filter (fun k => (d.fs i).toNat.testBit k) = [] := by
    rw [List.filter_eq_nil_iff]
    intro a ha
    simp at ha
    obtain ⟨q, -, rfl⟩ := ha
    rw [Nat.testBit_lt_two_pow (Nat.lt_of_lt_of_le h (Nat.pow_le_pow_right (by decide) (by omega)))]
    decide
  rw [e2, List.append_nil]
  rfl

set_option maxRecDepth 100000 in
set_option maxHeartbeats 4000000 in
theorem specFoesOf_any (d : Hd) (b1 b2 b3 : Nat) (hd : FitsH d) (x : Int) (w : World) (hM0 : Mem w (hdB d b1 b2 b3) w) :
    Calls Tryd.prog 20 #[.agg (arr 3 (hdV d b1 b2 b3)), .int .i64 x] w (GivesF2 (foesL d x) (foesC d x) w) := by
  have hM : Mem w (hdB d b1 b2 b3 ++ []) w := by rw [List.append_nil]; exact hM0
  have H0 := Lib.hid hM0
  clear hM0
  have HAC := Lib.hid (fun (bh : Nat) (a : Option Addr) (W : World) hB hG => l06Asked_any d bh b1 b2 b3 hd a 1 1 (oneY x) (by omega) W hB hG)
  by_cases hc : foesC d x = 0
  · obtain ⟨hOk, -, hB, i, rfl, hi⟩ := foes_0 hc
    have h14 := hOk.n
    have a1 : hdV d b1 b2 b3 0 = .slice (some ⟨b1, 0, none⟩) d.n1 d.n1 := rfl
    have a3 : hdV d b1 b2 b3 2 = .slice (some ⟨b3, 0, none⟩) d.n3 d.n3 := rfl
    have hfi := hd.f i (by rw [hOk.l3]; exact hi)
    have HC := Lib.hid (show askC d 1 (oneY (i : Int)) = 0 from hc)
    have HR := Lib.hid (show foesL d (i : Int) = foeU d i d.n1 ∧ foesC d (i : Int) = 0 from ⟨by rw [hB, foeU_bits (by omega)]; rfl; have := hOk.foes i hi; rw [Int.toNat_lt (by omega)]; exact_mod_cast this, hc⟩)
    have HARE := Lib.hid (fun (bh : Nat) (k : Nat) (hk : k < d.n1) (W : World) (hH : At W bh 3 (hdV d b1 b2 b3)) (h3 : At W b3 d.n3 (vUint16S d.fs)) => l06Are_at d bh b3 d.n3 d.n3 d.n3 (hdV d b1 b2 b3) (vUint16S d.fs) a3 i k (by rw [hOk.l3]; exact hi) (Nat.le_refl _) (by omega) hfi rfl W hH h3)
    clear hc hB hOk hfi
    have tk_x1 : True := trivial; have tk_l1 : True := trivial; have tk_s0 : True := trivial
    go_enter Tryd.func20, Tryd.ntmps20
    go_wp2_with (first | (have _t := tk_x1; refine wpList_box rfl _ _ rfl _ _ rfl hM ?_; intro x1 W' hx1 hM'; clear hM tk_x1; have hM := hM'; clear hM') | (have _t := tk_l1; refine wpList_lit1 rfl _ _ _ rfl (.int .i64 (i : Int)) rfl rfl _ int64s_underR int64_infoR hM ?_; intro l1 W' hl1 hM'; clear hM tk_l1; have hM := hM'; clear hM') | (go_at_call 62; refine (HAC.out x1 _ _ (hM.drop.boxed) (lit1_ints (hM.ats 0 _ _ _ rfl) rfl)).mono ?_; rintro e W' ⟨rfl, hb'⟩; rw [HC.out]; have hM' := hM.call hb'; clear hM hb'; have hM := hM'; clear hM') | (have _t := tk_s0; refine wpList_slice0 rfl _ _ rfl _ int64s_underR int64_info0 hM ?_; intro s0 W' hs0 hM'; clear hM tk_s0; have hM := hM'; clear hM'))
    have HF0 := Lib.hid (fun j (hj : j < (natI (foeU d i 0)).length * 1) => show (fun _ : Nat => undef) j = vI (natI (foeU d i 0)) j from absurd hj (by simp [foeU, natI]))
    obtain ⟨n, hn⟩ : ∃ n, d.n1 = n := ⟨_, rfl⟩
    rw [hn] at HR HARE a1 hi h14
    clear hn
    simp only [hdB, List.cons_append, List.nil_append] at hM
    generalize hdV d b1 b2 b3 = hv at *
    go_loopw [7, 8] (fun v i8 wr => ∃ k : Nat, k ≤ n ∧ i8 = .int .i64 k ∧ ∃ b c F, v = .slice (some ⟨b, 0, none⟩) (natI (foeU d i k)).length c ∧ w.heap.size ≤ b ∧ (natI (foeU d i k)).length ≤ c ∧ Hid (∀ j, j < (natI (foeU d i k)).length * 1 → F j = vI (natI (foeU d i k)) j) ∧ Mem w ((b, c * 1, F) :: (l1, 1, fun _ => Value.int .i64 (i : Int)) :: (x1, 3, hv) :: (b1, d.n1, vStringS d.ss) :: (b2, d.n2, vInt16S d.es) :: [(b3, d.n3, vUint16S d.fs)]) wr) (fun _ i8 _ => n - (intOf i8).toNat)
    case atStart => exact ⟨0, by omega, rfl, s0, 0, _, rfl, hs0, by simp [foeU, natI], HF0, hM⟩
    case round =>
      clear hM
      obtain ⟨k, hk, rfl, b, c, F, rfl, hbb, hnc, hF, hM⟩ := hrel
      by_cases hlt : k < n
      · have l2 : (k : Int) < n := by omega
        have hlen : (natI (foeU d i k)).length ≤ 1048576 := by rw [natI_len]; have := foeU_len d i k; omega
        have HN := Lib.hid (fun (h : foe d i k = true) => show natI (foeU d i (k + 1)) = natI (foeU d i k) ++ [(k : Int)] from by simp [foeU, h, natI])
        have HN2 := Lib.hid (fun (h : foe d i k = false) => show natI (foeU d i (k + 1)) = natI (foeU d i k) from by simp [foeU, h])
        generalize natI (foeU d i k) = rl at *
        have Hnew := Lib.hid (fun j (hj : j < 1) => vI_new rl (k : Int) hj)
        have Hf := Lib.hid (fun j (hj : j < rl.length * 1) => (hF.out j hj).trans (vI_old rl (k : Int) hj))
        cases hfo : foe d i k
        · have HFo := Lib.hid hfo
          have HE := Lib.hid (HN2.out hfo)
          clear hfo HN HN2
          go_wp2_with (first | (refine wpList_get1 rfl _ _ rfl _ _ rfl hM 2 rfl (cellTab _ rfl) (by omega) _ a1 ?_) | (go_at_call 63; refine (HARE.out x1 k hlt _ (hM.ats 2 _ _ _ rfl) (hM.ats 5 _ _ _ rfl)).mono ?_; rintro e W' ⟨rfl, hb'⟩; rw [HFo.out]; have hM' := hM.call hb'; clear hM hb'; have hM := hM'; clear hM'))
          go_roundw
          case rel => exact ⟨k + 1, by omega, by go_num, b, c, F, by rw [HE.out], hbb, by rw [HE.out]; exact hnc, by rw [HE.out]; exact hF, hM⟩
          case measure => simp [intOf]; omega
        · have HFo := Lib.hid hfo
          have HE := Lib.hid (HN.out hfo)
          clear hfo HN HN2
          have tk_l2b : True := trivial; have tk_p1 : True := trivial
          go_wp2_with (first | (refine wpList_get1 rfl _ _ rfl _ _ rfl hM 2 rfl (cellTab _ rfl) (by omega) _ a1 ?_) | (go_at_call 63; refine (HARE.out x1 k hlt _ (hM.ats 2 _ _ _ rfl) (hM.ats 5 _ _ _ rfl)).mono ?_; rintro e W' ⟨rfl, hb'⟩; rw [HFo.out]; have hM' := hM.call hb'; clear hM hb'; have hM := hM'; clear hM') | (have _t := tk_l2b; refine wpList_lit1 rfl _ _ _ rfl (.int .i64 (k : Int)) rfl rfl _ int64s_underR int64_infoR hM ?_; intro l2b W' hl2b hM'; clear hM tk_l2b; have hM := hM'; clear hM') | (have _t := tk_p1; refine wpList_push1 rfl _ _ _ rfl _ 1 _ _ int64s_underR infoInt64S rfl (by omega) _ _ _ _ rfl hbb hnc hlen _ _ rfl i64_one hM (vI (rl ++ [(k : Int)])) Hf.out Hnew.out ?_; intro bL cL FL W' hbL hcL hFL hM'; clear hM tk_p1; have hM := hM'; clear hM'))
          go_roundw
          case rel => exact ⟨k + 1, by omega, by go_num, bL, cL, FL, by rw [HE.out, List.length_append]; rfl, hbL, by rw [HE.out, List.length_append]; exact hcL, by rw [HE.out, List.length_append]; exact Lib.hid hFL, hM⟩
          case measure => simp [intOf]; omega
      · obtain rfl : k = n := by omega
        go_wp2_with (first | (refine wpList_get1 rfl _ _ rfl _ _ rfl hM 2 rfl (cellTab _ rfl) (by omega) _ a1 ?_))
        go_ret2
        rw [HR.out.1, HR.out.2]
        have hL : Lst w _ 1 (.slice (some ⟨b, 0, none⟩) (natI (foeU d i k)).length c) (natI (foeU d i k)).length (vI (natI (foeU d i k))) wr := .inr ⟨b, c, F, rfl, hbb, hnc, hF.out, hM⟩
        rw [natI_len] at hL ⊢
        exact GivesF2.some hL.only
  · have hz : askC d 1 (oneY x) ≠ 0 := hc
    have HR := Lib.hid (foes_no hc)
    unfold foesC
    clear hc
    generalize askC d 1 (oneY x) = C at *
    have z1 : (C != 0) = true := bne_iff_ne.2 hz
    have z2 : (C == 0) = false := beq_eq_false_iff_ne.2 hz
    have tk_x1 : True := trivial; have tk_l1 : True := trivial; have tk_s0 : True := trivial
    go_enter Tryd.func20, Tryd.ntmps20
    go_wp2_with (first | (have _t := tk_x1; refine wpList_box rfl _ _ rfl _ _ rfl hM ?_; intro x1 W' hx1 hM'; clear hM tk_x1; have hM := hM'; clear hM') | (have _t := tk_l1; refine wpList_lit1 rfl _ _ _ rfl (.int .i64 x) rfl rfl _ int64s_underR int64_infoR hM ?_; intro l1 W' hl1 hM'; clear hM tk_l1; have hM := hM'; clear hM') | (go_at_call 62; (with_reducible refine (HAC.out x1 _ _ (hM.drop.boxed) (lit1_ints (hM.ats 0 _ _ _ rfl) rfl)).mono ?_); rintro e W' ⟨rfl, hb'⟩; have hM' := hM.call hb'; clear hM hb'; have hM := hM'; clear hM') | (have _t := tk_s0; refine wpList_slice0 rfl _ _ rfl _ int64s_underR int64_info0 hM ?_; intro s0 W' hs0 hM'; clear hM tk_s0; have hM := hM'; clear hM'))
    go_ret2
    exact GivesF2.none hM.below HR.out rfl
theorem Lst.rise {w0 w1 : World} {K : Blocks} {m n : Nat} {v : Value} {R : Nat → Value} {W : World} (hM : Mem w0 K w1) (h : Lst w1 [] m v n R W) : Lst w0 [] m v n R W ∧ Below w1.heap.size w1 W := by
  rcases h with ⟨h1, h2, h⟩ | ⟨b, c, F, h1, h2, h3, h4, h⟩
  · exact ⟨.inl ⟨h1, h2, Mem.start (hM.call h.below).good⟩, h.below⟩
  · exact ⟨.inr ⟨b, c, F, h1, Nat.le_trans hM.size h2, h3, h4, h.base (hM.call h.below).good⟩, h.below⟩
/-- A goat's foes out of the program's goats. -/
theorem MemsAt.foes {W : World} {a : Option Addr} {n : Nat} {d : Hd} (h : MemsAt W a n d) {i : Nat} (hi : i < n) {s : Nat} (hs : d.fs i = s) : ∃ b N F, a = some ⟨b, 0, none⟩ ∧ i * 3 + 2 < N ∧ F (i * 3 + 2) = .int .u16 s ∧ At W b N F := by
  obtain ⟨b, N, F, h1, h2, -, h3, h4⟩ := h.row hi
  exact ⟨b, N, F, h1, by omega, (h3 2 (by omega)).trans (by rw [← hs]; rfl), h4⟩
set_option maxRecDepth 100000 in
set_option maxHeartbeats 4000000 in
theorem implFoesOf_any {a : Nat → Addr} (d : Hd) (b1 b2 b3 : Nat) (hd : FitsH d) (x : Int) (w : World) (hM0 : Mem w (hdB d b1 b2 b3) w) (hE : Errs a w) (hT : Tab w) :
    Calls Tryd.prog 21 #[.agg (arr 3 (hdV d b1 b2 b3)), .int .i64 x] w (GivesF2 (foesL d x) (foesC d x) w) := by
  have hM := Mem.nil w
  have H0 := Lib.hid hM0
  have HE := Lib.hid hE
  have HT := Lib.hid hT
  clear hM0 hE hT
  by_cases hc : foesC d x = 0
  · obtain ⟨hOk, hys, hB, i, rfl, hi⟩ := foes_0 hc
    have h14 := hOk.n
    have hfi := hd.f i (by rw [hOk.l3]; exact hi)
    obtain ⟨s, hs⟩ : ∃ s : Nat, d.fs i = s := ⟨(d.fs i).toNat, by omega⟩
    have hs2 : s < 65536 := by omega
    have HR := Lib.hid (show foesL d (i : Int) = bitsL s ∧ foesC d (i : Int) = 0 from ⟨by rw [hB, Int.toNat_natCast, hs]; rfl, hc⟩)
    have Hs := Lib.hid hs
    have hFW := fun (ga : Option Addr) (W : World) hB hE hG => flockWith_ok (r := a 1) d b1 b2 b3 hd ga 1 1 (oneY (i : Int)) (by omega) W hB hE hG hOk hys
    clear hc hB hys hs hfi
    obtain ⟨hv, hhv⟩ : ∃ f, hdV d b1 b2 b3 = f := ⟨_, rfl⟩
    rw [hhv] at hFW ⊢
    have HFW := Lib.hid hFW
    obtain ⟨n, hn⟩ : ∃ n, d.n1 = n := ⟨_, rfl⟩
    rw [hn] at HFW hi
    have l2 : (i : Int) < n := by omega
    clear hhv hFW hOk
    have tk_x1 : True := trivial; have tk_r1 : True := trivial; have tk_l1 : True := trivial; have tk_f8 : True := trivial; have tk_s1 : True := trivial; have tk_m1 : True := trivial
    go_enter Tryd.func21, Tryd.ntmps21
    go_wp2_with (first | (have _t := tk_x1; refine wpList_box rfl _ _ rfl _ _ rfl hM ?_; intro x1 W' hx1 hM'; clear hM tk_x1; have hM := hM'; clear hM') | (have _t := tk_r1; refine wpList_get rfl _ _ rfl _ _ rfl hM 0 rfl (rowTab _ _ rfl) (by omega) ?_; simp only [Nat.zero_add]; clear tk_r1) | (have _t := tk_l1; refine wpList_lit1 rfl _ _ _ rfl (.int .i64 (i : Int)) rfl rfl _ int64s_underR int64_infoR hM ?_; intro l1 W' hl1 hM'; clear hM tk_l1; have hM := hM'; clear hM') | (go_at_call 64; refine (HFW.out _ _ ((H0.out.call hM.below).base (Below.refl _ _)) ⟨(HE.out.below hM.below).vars 1 (by omega), HT.out.below hM.below⟩ (lit1_ints (hM.ats 0 _ _ _ rfl) rfl)).mono ?_; rintro e Wf ⟨ma, mc, m, rfl, hmc, hMA, hO, hb'⟩; obtain ⟨bm, Nm, Fm, rfl, hNm, hFm, hAm⟩ := hMA.foes hi Hs.out; have hM' := hM.call hb'; have HB0 := Lib.hid hM'.below; have hM2 := hM'.base (w' := Base.of Wf) (Below.refl _ _); have HAm := Lib.hid hAm; clear hM hb' hO hMA hM' hAm; have hM := hM2; clear hM2) | (have _t := tk_f8; refine wpList_zero rfl _ rfl (zeroTab _ _ _ rfl) hM ?_; intro f8 W' hf8 hM'; clear hM tk_f8; have hM := hM'; clear hM') | (have _t := tk_s1; refine wpList_lay rfl _ _ _ rfl _ _ rfl _ _ rfl hM 0 rfl (by assumption) (rowTab _ _ rfl) (by omega) (fun k _ => flkV_one _ _ _ _ k) ?_; intro W' hM'; have hM2 := hM'.re 0 rfl (flkV (some ⟨bm, 0, none⟩) n mc m) (fun k hk => by simp [lay, hk]); simp only [List.set] at hM2; clear hM hM' tk_s1; have hM := hM2; clear hM2) | (have _t := tk_m1; refine wpList_get1 rfl _ _ rfl _ _ rfl hM 0 rfl (cellTab _ rfl) (by omega) (.slice (some ⟨bm, 0, none⟩) n mc) rfl ?_; clear tk_m1) | (refine wpList_getAt1 rfl _ _ rfl _ _ rfl (HAm.out.below hM.below HAm.out.lt) (cellTab _ rfl) hNm _ hFm ?_) | (go_at_call 66; refine (list_any s hs2 _ ((HT.out.below HB0.out).below hM.below)).mono ?_; rintro e W' ⟨v, rfl, hL⟩; have HL := Lib.hid hL; clear hL))
    go_ret2
    rw [HR.out.1, HR.out.2]
    have hU := Lst.rise ((hM.base (w' := Base.of w) (HB0.out.trans (hM.below.mono HB0.out.size)))) HL.out
    exact GivesF2.some hU.1
  · have hz : askC d 1 (oneY x) ≠ 0 := hc
    have HR := Lib.hid (foes_no hc)
    have hFW := fun (ga : Option Addr) (W : World) hB hE hT hG => flockWith_bad (a := a) d b1 b2 b3 hd ga 1 1 (oneY x) (by omega) W hB hE hT hG hz
    unfold foesC
    clear hc
    obtain ⟨hv, hhv⟩ : ∃ f, hdV d b1 b2 b3 = f := ⟨_, rfl⟩
    rw [hhv] at hFW ⊢
    generalize askC d 1 (oneY x) = C at *
    have HFW := Lib.hid hFW
    clear hhv hFW
    have tk_x1 : True := trivial; have tk_r1 : True := trivial; have tk_l1 : True := trivial; have tk_f8 : True := trivial; have tk_s1 : True := trivial
    go_enter Tryd.func21, Tryd.ntmps21
    go_wp2_with (first | (have _t := tk_x1; refine wpList_box rfl _ _ rfl _ _ rfl hM ?_; intro x1 W' hx1 hM'; clear hM tk_x1; have hM := hM'; clear hM') | (have _t := tk_r1; refine wpList_get rfl _ _ rfl _ _ rfl hM 0 rfl (rowTab _ _ rfl) (by omega) ?_; simp only [Nat.zero_add]; clear tk_r1) | (have _t := tk_l1; refine wpList_lit1 rfl _ _ _ rfl (.int .i64 x) rfl rfl _ int64s_underR int64_infoR hM ?_; intro l1 W' hl1 hM'; clear hM tk_l1; have hM := hM'; clear hM') | (go_at_call 64; refine (HFW.out _ _ ((H0.out.call hM.below).base (Below.refl _ _)) (HE.out.below hM.below) (HT.out.below hM.below) (lit1_ints (hM.ats 0 _ _ _ rfl) rfl)).mono ?_; rintro e Wf ⟨ff, ev, rfl, hone, hEv, hb'⟩; have hM' := hM.call hb'; have hN := hEv.neq; have hGd := hEv.guard; have HEv := Lib.hid hEv; have HOne := Lib.hid hone; clear hM hb' hEv hone; have hM := hM'; clear hM') | (have _t := tk_f8; refine wpList_zero rfl _ rfl (zeroTab _ _ _ rfl) hM ?_; intro f8 W' hf8 hM'; clear hM tk_f8; have hM := hM'; clear hM') | (have _t := tk_s1; refine wpList_lay rfl _ _ _ rfl _ _ rfl _ _ rfl hM 0 rfl (by assumption) (rowTab _ _ rfl) (by omega) HOne.out ?_; intro W' hM'; clear hM tk_s1; have hM := hM'; clear hM'; simp only [List.set] at hM) | (go_at_call 65; refine (HEv.out.code (HE.out.below hM.below)).mono ?_; rintro e W' ⟨rfl, rfl⟩))
    go_ret2
    exact GivesF2.none hM.below HR.out rfl
end Go.Proofs.YthodkbmenndnoaaDoor

/-
  (impl.members).checkNumbers, checkPeace by contracts.
-/
namespace Go.Proofs.YthodkbmenndnoaaDoor
open Go Go.RowKit Go.BigFrame

set_option maxRecDepth 100000 in
set_option maxHeartbeats 2000000 in
theorem checkNumbers_any {a : Nat → Addr} (d : Hd) (ma : Option Addr) (mc : Nat) (h14 : d.n1 ≤ 14) (ga : Option Addr) (gn gc : Nat) (ys : Nat → Int) (hgn : gn ≤ 1048576) (R : Value) (hR : (if numsB d gn ys = true then .nilIface else errV (a 2)) = R) (w : World) (hG : IntsAt w ga gn ys) (hE : Errs a w) :
    Calls Tryd.prog 96 #[.slice ma d.n1 mc, .slice ga gn gc] w fun e w' => e = .returned R ∧ Below w.heap.size w w' := by
  have hM := Mem.nil w
  have HG := Lib.hid hG
  have HE := Lib.hid hE
  have HR := Lib.hid hR
  clear hG hE hR
  by_cases hl : gn = d.n1
  case neg =>
    have v2 : w.cell? ⟨3, 0, none⟩ = some (errV (a 2)) := HE.out.vars 2 (by omega)
    have HZ := Lib.hid (show numsB d gn ys = false from by unfold numsB; rw [decide_eq_false hl]; rfl)
    have z1 : ((gn : Int) != (d.n1 : Int)) = true := bne_iff_ne.2 (by omega)
    have z2 : ((gn : Int) == (d.n1 : Int)) = false := beq_eq_false_iff_ne.2 (by omega)
    have z3 : ¬ (gn : Int) = d.n1 := by omega
    clear hl
    go_enter Tryd.func96, Tryd.ntmps96
    go_wp2
    go_ret
    exact ⟨by rw [← HR.out, HZ.out]; rfl, hM.below⟩
  obtain ⟨n, hn⟩ : ∃ n, d.n1 = n := ⟨_, rfl⟩
  have Hn := Lib.hid hn
  rw [hn] at h14 ⊢
  rw [hn] at hl
  subst hl
  clear hn
  go_enter Tryd.func96, Tryd.ntmps96
  go_wp2
  go_loopw [15] (fun i wr => ∃ k : Nat, k ≤ gn ∧ i = .int .i64 k ∧ Hid (numU ys k = true) ∧ Mem w [] wr) (fun i _ => gn - (intOf i).toNat)
  case atStart => exact ⟨0, by omega, rfl, Lib.hid rfl, hM⟩
  case round =>
    clear hM
    obtain ⟨k, hk, rfl, hall, hM⟩ := hrel
    by_cases hlt : k < gn
    · have l2 : (k : Int) < gn := by omega
      obtain ⟨bg, Ng, Fg, rfl, hNg, hFg, hAg⟩ := HG.out.at hlt
      have HAg := Lib.hid hAg
      obtain ⟨y, hy⟩ : ∃ y, ys k = y := ⟨_, rfl⟩
      rw [hy] at hFg
      have HSt := Lib.hid (show numU ys (k + 1) = inB 0 13 y from by simp only [numU, hall.out, Bool.true_and, hy])
      have HFn := Lib.hid (show inB 0 13 y = false → numsB d gn ys = false from fun h => by unfold numsB; rw [numU_no hlt (by rw [hy]; exact h), Bool.and_false])
      have v2 : wr.cell? ⟨3, 0, none⟩ = some (errV (a 2)) := (HE.out.below hM.below).vars 2 (by omega)
      clear hAg hy
      by_cases h0 : y < 0
      · have d0 : decide (y < 0) = true := decide_eq_true h0
        have HZ := Lib.hid (HFn.out (inB_no (by omega)))
        go_wp2_with (first | (refine wpList_getAt1 rfl _ _ rfl _ _ rfl (HAg.out.below hM.below HAg.out.lt) (cellTab _ rfl) (by omega) _ hFg ?_))
        go_ret
        exact ⟨by rw [← HR.out, HZ.out]; rfl, hM.below⟩
      have d0 : decide (y < 0) = false := decide_eq_false h0
      by_cases h1 : 14 ≤ y
      · have d1 : decide (14 ≤ y) = true := decide_eq_true h1
        have HZ := Lib.hid (HFn.out (inB_no (by omega)))
        go_wp2_with (first | (refine wpList_getAt1 rfl _ _ rfl _ _ rfl (HAg.out.below hM.below HAg.out.lt) (cellTab _ rfl) (by omega) _ hFg ?_))
        go_ret
        exact ⟨by rw [← HR.out, HZ.out]; rfl, hM.below⟩
      have d1 : decide (14 ≤ y) = false := decide_eq_false h1
      have HZ := Lib.hid (HSt.out.trans (inB_yes (by omega)))
      clear v2
      go_wp2_with (first | (refine wpList_getAt1 rfl _ _ rfl _ _ rfl (HAg.out.below hM.below HAg.out.lt) (cellTab _ rfl) (by omega) _ hFg ?_))
      go_roundw
      case rel => exact ⟨k + 1, by omega, by go_num, HZ, hM⟩
      case measure => simp [intOf]; omega
    · obtain rfl : k = gn := by omega
      have HZ := Lib.hid (show numsB d k ys = true from by unfold numsB; rw [hall.out, Hn.out, decide_eq_true rfl]; rfl)
      go_wp2
      go_ret
      exact ⟨by rw [← HR.out, HZ.out]; rfl, hM.below⟩

/-- The refusal of groups for a quarrel. -/
def quarV (i k : Nat) : Value := .iface 111 (.agg #[.int .i64 (i : Int), .int .i64 (k : Int)])
theorem run_quarrel (x y : Int) (W : World) : (Instr.build 111 #[(0, .int .i64 x), (1, .int .i64 y)]).run Tryd.prog W = .ok (.agg #[.int .i64 x, .int .i64 y]) W := by kernel_rfl
theorem wpList_quarrel {ops : Array Oper} {rest : List Oper} {o : Oper} {a : Act} {W : World} {Q : Exit → Act → World → Prop} (hgd : o.guard = none) (x y : Operand) (ho : o.op = .build 111 #[(0, x), (1, y)]) (i k : Int)
    (hx : a.eval x = .int .i64 i) (hy : a.eval y = .int .i64 k)
    (h : wpList Tryd.prog ops Q rest (a.put o.dst (.agg #[.int .i64 i, .int .i64 k])) W) : wpList Tryd.prog ops Q (o :: rest) a W := by
  refine wpList_plain hgd fun K hK => ?_
  have hr := run_quarrel i k W
  rw [← hx, ← hy] at hr
  unfold Oper.wp execOp
  simp only [ho, List.map_toArray, List.map_cons, List.map_nil, Sem.run_bind, Sem.run_pure, hr, Result.andThen_ok]
  rw [hx, hy]
  exact hK _ _ h
/-- What the check of peace gives. -/
def peaceV (a : Nat → Addr) (d : Hd) (n : Nat) (ys : Nat → Int) : Value := if numsB d n ys then (match quarI d ys n n with | some (i, k) => quarV i k | none => .nilIface) else errV (a 2)

set_option maxRecDepth 100000 in
set_option maxHeartbeats 8000000 in
theorem checkPeace_any {a : Nat → Addr} (d : Hd) (ma : Option Addr) (mc : Nat) (hOk : HerdOk d) (hf : ∀ i, i < d.n1 → 0 ≤ d.fs i ∧ d.fs i ≤ 65535) (ga : Option Addr) (gn gc : Nat) (ys : Nat → Int) (hgn : gn ≤ 1048576) (w : World) (hA : MemsAt w ma d.n1 d) (hG : IntsAt w ga gn ys) (hE : Errs a w) (hT : Tab w) :
    Calls Tryd.prog 92 #[.slice ma d.n1 mc, .slice ga gn gc] w fun e w' => e = .returned (peaceV a d gn ys) ∧ Below w.heap.size w w' := by
  have hM := Mem.nil w
  have HG := Lib.hid hG
  have HE := Lib.hid hE
  have HT := Lib.hid hT
  have HA := Lib.hid hA
  have HF := Lib.hid hf
  have h14 := hOk.n
  have HFo := Lib.hid hOk.foes
  have HCN := Lib.hid (fun (R : Value) (hR : (if numsB d gn ys = true then .nilIface else errV (a 2)) = R) (W : World) hG hE => checkNumbers_any (a := a) d ma mc h14 ga gn gc ys hgn R hR W hG hE)
  clear hG hE hT hA hf hOk
  cases hnb : numsB d gn ys
  · have HZ := Lib.hid (show peaceV a d gn ys = errV (a 2) from by unfold peaceV; rw [hnb]; rfl)
    have HB := Lib.hid hnb
    have hIf : Hid ((if numsB d gn ys = true then Value.nilIface else errV (a 2)) = errV (a 2)) := Lib.hid (by rw [hnb]; rfl)
    clear hnb
    go_enter Tryd.func92, Tryd.ntmps92
    go_wp2_with (first | (go_at_call 96; refine (HCN.out _ hIf.out _ (HG.out.below hM.below) (HE.out.below hM.below)).mono ?_; rintro e W' ⟨rfl, hb'⟩; have hM' := hM.call hb'; clear hM hb'; have hM := hM'; clear hM'))
    go_ret
    rw [HZ.out]
    exact ⟨rfl, hM.below⟩
  have hIf : Hid ((if numsB d gn ys = true then Value.nilIface else errV (a 2)) = Value.nilIface) := Lib.hid (by rw [hnb]; rfl)
  obtain ⟨hnn, -⟩ := numsB_iff.1 hnb
  subst hnn
  obtain ⟨n, hn⟩ : ∃ n, d.n1 = n := ⟨_, rfl⟩
  have HZ := Lib.hid (show ∀ o, quarI d ys n n = o → peaceV a d n ys = (match o with | some (i, k) => quarV i k | none => .nilIface) from fun o h => by unfold peaceV; rw [← hn, hnb, if_pos rfl, hn, h])
  rw [hn] at HG HA HF HFo HCN hIf h14 ⊢
  clear hnb
  obtain ⟨al, hal⟩ : ∃ al, 2 ^ n - 1 = al := ⟨_, rfl⟩
  have HAL := Lib.hid hal
  have hal2 : al < 65536 := by rw [← hal]; have := u16_two n (by omega); omega
  have HLA := Lib.hid (show ∀ W, Tab W → Calls Tryd.prog 66 #[.int .u16 al] W (GivesV (List.range n) W) from fun W h => by rw [← bits_all h14, hal]; exact list_any al hal2 W h)
  clear hn hal
  go_enter Tryd.func92, Tryd.ntmps92
  go_wp2_with (first | (go_at_call 96; refine (HCN.out _ hIf.out _ (HG.out.below hM.below) (HE.out.below hM.below)).mono ?_; rintro e W' ⟨rfl, hb'⟩; have hM' := hM.call hb'; clear hM hb'; have hM := hM'; clear hM') | (go_at_call 101; refine (all_any ma n mc h14 al HAL.out _).mono ?_; rintro e W' ⟨rfl, hb'⟩; have hM' := hM.call hb'; clear hM hb'; have hM := hM'; clear hM') | (go_at_call 66; refine (HLA.out _ (HT.out.below hM.below)).mono ?_; rintro e W' hGv; obtain ⟨la, lc, rfl, hlc, hL, hb'⟩ := hGv.nums; have hM' := hM.call hb'; have HL := Lib.hid hL; clear hM hb' hGv hL; have hM := hM'; clear hM'))
  have HL' := HL
  have HB1 := Lib.hid hM.below
  obtain ⟨W1, hW1⟩ : ∃ W1, W1 = W' := ⟨_, rfl⟩
  have hM2 := hM.base (w' := Base.of W') (Below.refl _ _)
  clear HL hM
  have hM := hM2
  clear hM2 hW1 W1
  go_loopw [20] (fun v wr => ∃ i : Nat, i ≤ n ∧ v = .int .i64 i ∧ Hid (quarI d ys n i = none) ∧ Mem (Base.of W') [] wr) (fun v _ => n - (intOf v).toNat)
  case atStart => exact ⟨0, by omega, rfl, Lib.hid rfl, hM⟩
  case round =>
    clear hM
    obtain ⟨i, hi, rfl, hall, hM⟩ := hrel
    have HL := HL'
    by_cases hlt : i < n
    · have l2 : (i : Int) < n := by omega
      obtain ⟨bl, NL, FL, rfl, hNL, hFL, hAL⟩ := HL.out.at (k := i) (by simpa using hlt)
      rw [List.getElem_range] at hFL
      rw [List.length_range] at hNL
      obtain ⟨s, hs⟩ : ∃ s : Nat, d.fs i = s := ⟨(d.fs i).toNat, by have := HF.out i hlt; omega⟩
      have hs2 : s < 65536 := by have := HF.out i hlt; omega
      obtain ⟨bm, Nm, Fm, hma, hNm, hFm, hAm⟩ := ((HA.out.below HB1.out).below hM.below).foes hlt hs
      subst hma
      have HAL := Lib.hid hAL
      have HAm := Lib.hid hAm
      have Hfo := Lib.hid (show ∀ k, foe d i k = s.testBit k from fun k => by unfold foe; rw [show (d.fs i).toNat = s by omega])
      have hsn : s < 2 ^ n := by have := HFo.out i hlt; rw [hs] at this; exact_mod_cast this
      have HLS := Lib.hid (fun (W : World) (h : Tab W) => list_any s hs2 W h)
      clear hAL hAm hs
      go_wp2_with (first | (refine wpList_getAt1 rfl _ _ rfl _ _ rfl (HAL.out.below hM.below HAL.out.lt) (cellTab _ rfl) (by omega) _ hFL ?_) | (refine wpList_getAt1 rfl _ _ rfl _ _ rfl HAm.out (cellTab _ rfl) hNm _ hFm ?_) | (go_at_call 66; refine (HLS.out _ ((HT.out.below HB1.out).below hM.below)).mono ?_; rintro e W2 hGv; obtain ⟨la, lc, rfl, hlc, hL, hb'⟩ := hGv.nums; have hM' := hM.call hb'; have HL2 := Lib.hid hL; have HM2 := Lib.hid hM'; have hM2 := hM'.base (w' := Base.of W2) (Below.refl _ _); clear hM hb' hGv hL hM'; have hM := hM2; clear hM2))
      have Hmem := Lib.hid (show ∀ x, x ∈ bitsL s → x < n ∧ foe d i x = true from fun x hx => ⟨bit_lt hsn ((mem_bitsL hs2).1 hx), by rw [Hfo.out]; exact (mem_bitsL hs2).1 hx⟩)
      have Hbef := Lib.hid (show ∀ (m : Nat), (∀ k, k < m → s.testBit k = true → i < k → ys i ≠ ys k) → quarK d ys i m = none from fun m h => quarK_none.2 fun k hk hik => by
        unfold qAt
        rw [Hfo.out]
        cases hb : s.testBit k with
        | false => rw [Bool.and_false]
        | true => rw [decide_eq_false (h k hk hb hik), Bool.false_and])
      have Hord := Lib.hid (fun (j : Nat) (hj : j < (bitsL s).length) (x : Nat) (hx : x < (bitsL s)[j]) (hb : s.testBit x = true) => bits_before hs2 hj hx hb)
      have Hin := Lib.hid (fun (x : Nat) (hb : s.testBit x = true) => (mem_bitsL hs2).2 hb)
      have hlen := bitsL_len s
      have HBw := Lib.hid (HB1.out.trans (HM2.out.below.mono HB1.out.size))
      have HL3 := HL2
      clear HL HL2 HAL HLS
      generalize bitsL s = l at *
      go_loopw [31] (fun v wr => ∃ j : Nat, j ≤ l.length ∧ v = .int .i64 j ∧ Hid (∀ q (hq : q < l.length), q < j → i < l[q] → ys i ≠ ys l[q]) ∧ Mem (Base.of W2) [] wr) (fun v _ => l.length - (intOf v).toNat)
      case atStart => exact ⟨0, by omega, rfl, Lib.hid (fun q _ h => absurd h (by omega)), hM⟩
      case round =>
        clear hM
        obtain ⟨j, hj, rfl, hall2, hM⟩ := hrel
        have HL := HL3
        by_cases hjl : j < l.length
        · have l3 : (j : Int) < l.length := by omega
          obtain ⟨bk, NK, FK, rfl, hNK, hFK, hAK⟩ := HL.out.at hjl
          obtain ⟨hxn, hxf⟩ := Hmem.out _ (List.getElem_mem hjl)
          obtain ⟨x, hx⟩ : ∃ x, l[j] = x := ⟨_, rfl⟩
          rw [hx] at hFK hxn hxf
          have HAK := Lib.hid hAK
          have HX := Lib.hid hx
          have HXF := Lib.hid hxf
          have HSt := Lib.hid (show (i < x → ys i ≠ ys x) → ∀ q (hq : q < l.length), q < j + 1 → i < l[q] → ys i ≠ ys l[q] from fun h q hq hqj => by
            by_cases e : q = j
            · subst e; rw [HX.out]; exact h
            · exact hall2.out q hq (by omega))
          clear hAK hx hxf
          by_cases hix : i < x
          case neg =>
            have d0 : decide (i < x) = false := decide_eq_false hix
            have HZ := Lib.hid (HSt.out (fun h => absurd h hix))
            clear hix
            go_wp2_with (first | (refine wpList_getAt1 rfl _ _ rfl _ _ rfl (HAK.out.below hM.below HAK.out.lt) (cellTab _ rfl) (by omega) _ hFK ?_))
            ((try simp only [Act.put, List.setIfInBounds_toArray, List.set_cons_succ, List.set_cons_zero]); refine wp_region_mem (by kernel_rfl) (by kernel_rfl) hM ?_; clear hM; (repeat (first | go_big_quiet_skip | (go_big_quiet_want; first | (refine quiet_val ?_; apply Exists.intro; refine ⟨fun W => ?_, ?_⟩; (go_simp; (try simp only [d0, if_true, Bool.false_eq_true, if_false]); rfl); (simp only [Act.put, List.setIfInBounds_toArray, List.set_cons_succ, List.set_cons_zero]); go_big_quiet_on)))); (with_reducible refine wpQuiet_nil ?_); intro W' hM)
            go_wp2
            go_roundw
            case rel => exact ⟨j + 1, by omega, by go_num, HZ, hM⟩
            case measure => simp [intOf]; omega
          have d0 : decide (i < x) = true := decide_eq_true hix
          obtain ⟨bg, Ng, Fg, rfl, hNg, hFg, hAg⟩ := HG.out.at hlt
          obtain ⟨bg2, Ng2, Fg2, heq, hNg2, hFg2, hAg2⟩ := HG.out.at hxn
          obtain rfl : bg = bg2 := by simpa using heq
          have HAg := Lib.hid hAg
          have HAg2 := Lib.hid hAg2
          obtain ⟨y, hy⟩ : ∃ y, ys i = y := ⟨_, rfl⟩
          obtain ⟨z, hz⟩ : ∃ z, ys x = z := ⟨_, rfl⟩
          rw [hy] at hFg
          rw [hz] at hFg2
          have HYZ := Lib.hid (And.intro hy hz)
          clear hAg hAg2 heq hy hz
          by_cases hyz : y = z
          case neg =>
            have e1 : (y == z) = false := beq_eq_false_iff_ne.2 hyz
            have HZ := Lib.hid (HSt.out (fun _ => by rw [HYZ.out.1, HYZ.out.2]; exact hyz))
            clear hyz
            go_wp2_with (first | (refine wpList_getAt1 rfl _ _ rfl _ _ rfl (HAK.out.below hM.below HAK.out.lt) (cellTab _ rfl) (by omega) _ hFK ?_))
            ((try simp only [Act.put, List.setIfInBounds_toArray, List.set_cons_succ, List.set_cons_zero]); refine wp_region_mem (by kernel_rfl) (by kernel_rfl) hM ?_; clear hM; (repeat (first | go_big_quiet_skip | (go_big_quiet_want; first | (refine quiet_old _ _ rfl _ _ rfl (cellTab _ rfl) (.int .i64 y) (fun W hM2 => ((HAg.out.below (HBw.out.trans (hM2.below.mono HBw.out.size)) HAg.out.lt).cell (by omega)).trans (congrArg some hFg)) ?_; (simp only [Act.put, List.setIfInBounds_toArray, List.set_cons_succ, List.set_cons_zero]); go_big_quiet_on) | (refine quiet_old _ _ rfl _ _ rfl (cellTab _ rfl) (.int .i64 z) (fun W hM2 => ((HAg2.out.below (HBw.out.trans (hM2.below.mono HBw.out.size)) HAg2.out.lt).cell (by omega)).trans (congrArg some hFg2)) ?_; (simp only [Act.put, List.setIfInBounds_toArray, List.set_cons_succ, List.set_cons_zero]); go_big_quiet_on) | (refine quiet_val ?_; apply Exists.intro; refine ⟨fun W => ?_, ?_⟩; (go_simp; (try simp only [d0, e1, if_true, Bool.false_eq_true, if_false]); rfl); (simp only [Act.put, List.setIfInBounds_toArray, List.set_cons_succ, List.set_cons_zero]); go_big_quiet_on)))); (with_reducible refine wpQuiet_nil ?_); intro W' hM)
            go_wp2
            go_roundw
            case rel => exact ⟨j + 1, by omega, by go_num, HZ, hM⟩
            case measure => simp [intOf]; omega
          subst hyz
          have HZ1 := Lib.hid (HZ.out (some (i, x)) (quarI_at hall.out (quarK_at (Hbef.out x (fun k hk hb hik => by
            obtain ⟨q, hq, hqj, e⟩ := Hord.out j hjl k (by rw [HX.out]; exact hk) hb
            subst e
            exact hall2.out q hq hqj hik)) hix (by unfold qAt; rw [HYZ.out.1, HYZ.out.2, decide_eq_true rfl, HXF.out]; rfl) n hxn) n hlt))
          clear HZ hix
          go_wp2_with (first | (refine wpList_getAt1 rfl _ _ rfl _ _ rfl (HAK.out.below hM.below HAK.out.lt) (cellTab _ rfl) (by omega) _ hFK ?_))
          ((try simp only [Act.put, List.setIfInBounds_toArray, List.set_cons_succ, List.set_cons_zero]); refine wp_region_mem (by kernel_rfl) (by kernel_rfl) hM ?_; clear hM; (repeat (first | go_big_quiet_skip | (go_big_quiet_want; first | (refine quiet_old _ _ rfl _ _ rfl (cellTab _ rfl) (.int .i64 y) (fun W hM2 => ((HAg.out.below (HBw.out.trans (hM2.below.mono HBw.out.size)) HAg.out.lt).cell (by omega)).trans (congrArg some hFg)) ?_; (simp only [Act.put, List.setIfInBounds_toArray, List.set_cons_succ, List.set_cons_zero]); go_big_quiet_on) | (refine quiet_old _ _ rfl _ _ rfl (cellTab _ rfl) (.int .i64 y) (fun W hM2 => ((HAg2.out.below (HBw.out.trans (hM2.below.mono HBw.out.size)) HAg2.out.lt).cell (by omega)).trans (congrArg some hFg2)) ?_; (simp only [Act.put, List.setIfInBounds_toArray, List.set_cons_succ, List.set_cons_zero]); go_big_quiet_on) | (refine quiet_val ?_; apply Exists.intro; refine ⟨fun W => ?_, ?_⟩; (go_simp; (try simp only [d0, beq_self_eq_true, if_true, Bool.false_eq_true, if_false]); rfl); (simp only [Act.put, List.setIfInBounds_toArray, List.set_cons_succ, List.set_cons_zero]); go_big_quiet_on)))); (with_reducible refine wpQuiet_nil ?_); intro W' hM)
          go_wp2_with (first | (refine wpList_quarrel rfl _ _ rfl i x rfl rfl ?_; (simp only [Act.put, List.setIfInBounds_toArray, List.set_cons_succ, List.set_cons_zero])))
          go_ret
          rw [HZ1.out]
          exact ⟨rfl, HBw.out.trans (hM.below.mono HBw.out.size)⟩
        · obtain rfl : j = l.length := by omega
          have HZ2 := Lib.hid (quarI_step hall.out (Hbef.out n (fun k hk hb hik => by
            obtain ⟨q, hq, e⟩ := List.getElem_of_mem (Hin.out k hb)
            subst e
            exact hall2.out q hq hq hik)))
          go_wp2
          go_roundw
          case rel => exact ⟨i + 1, by omega, by go_num, HZ2, HM2.out.call hM.below⟩
          case measure => simp [intOf]; omega
    · obtain rfl : i = n := by omega
      have HZ2 := Lib.hid (HZ.out none hall.out)
      go_wp2
      go_ret
      rw [HZ2.out]
      exact ⟨rfl, HB1.out.trans (hM.below.mono HB1.out.size)⟩
end Go.Proofs.YthodkbmenndnoaaDoor

/-
  CheckGroups by contracts, both sides.
-/
namespace Go.Proofs.YthodkbmenndnoaaDoor
open Go Go.RowKit Go.BigFrame

/-- Are groups peaceful? -/
def chkB (d : Hd) (n : Nat) (ys : Nat → Int) : Bool := herdB d && (numsB d n ys && (quarI d ys n n).isNone)
def chkC (d : Hd) : Int := askC d 0 (fun _ => 0)
theorem vInt64S_ints {W : World} {b n : Nat} {ys : Nat → Int} (h : At W b n (vInt64S ys)) : IntsAt W (some ⟨b, 0, none⟩) n ys :=
  .inr ⟨b, n, _, rfl, Nat.le_refl _, fun _ _ => rfl, h⟩
theorem chk_0 {d : Hd} (h : herdB d = true) : chkC d = 0 := by unfold chkC askC; rw [h]; rfl
theorem chk_1 {d : Hd} (h : herdB d = false) : chkC d = 1 := by unfold chkC askC; rw [h]; rfl

set_option maxRecDepth 100000 in
set_option maxHeartbeats 4000000 in
theorem specCheckGroups_any (d : Hd) (b1 b2 b3 : Nat) (hd : FitsH d) (bg n : Nat) (ys : Nat → Int) (hn : n ≤ 1048576) (w : World) (hM0 : Mem w (hdB d b1 b2 b3) w) (hG : At w bg n (vInt64S ys)) :
    Calls Tryd.prog 38 #[.agg (arr 3 (hdV d b1 b2 b3)), .slice (some ⟨bg, 0, none⟩) n n] w fun e w' => e = .returned (boolCode (chkB d n ys) (chkC d)) ∧ Below w.heap.size w w' := by
  have hM : Mem w (hdB d b1 b2 b3 ++ []) w := by rw [List.append_nil]; exact hM0
  have HG := Lib.hid (vInt64S_ints hG)
  have HOK := Lib.hid (fun (bh : Nat) (W : World) hB => l06Ok_any d bh b1 b2 b3 hd W hB)
  have a1 : hdV d b1 b2 b3 0 = .slice (some ⟨b1, 0, none⟩) d.n1 d.n1 := rfl
  have HNU := Lib.hid (fun (bh : Nat) (W : World) hH hI => l06Numbers_any d bh (hdV d b1 b2 b3) b1 d.n1 a1 (some ⟨bg, 0, none⟩) n n ys hn W hH hI)
  clear hM0 hG
  cases hv : herdB d
  · have HV := Lib.hid hv
    have HR := Lib.hid (show boolCode (chkB d n ys) (chkC d) = .tuple #[.bool false, .int .i64 1] from by unfold chkB; rw [chk_1 hv, hv]; rfl)
    clear hv
    have tk_x1 : True := trivial
    go_enter Tryd.func38, Tryd.ntmps38
    go_wp2_with (first | (have _t := tk_x1; refine wpList_box rfl _ _ rfl _ _ rfl hM ?_; intro x1 W' hx1 hM'; clear hM tk_x1; have hM := hM'; clear hM') | (go_at_call 51; refine (HOK.out x1 _ (hM.boxed)).mono ?_; rintro e W' ⟨rfl, hb'⟩; rw [HV.out]; have hM' := hM.call hb'; clear hM hb'; have hM := hM'; clear hM'))
    go_ret2
    rw [HR.out]
    exact ⟨rfl, hM.below⟩
  have HV := Lib.hid hv
  have hOk := herdB_iff.1 hv
  cases hb : numsB d n ys
  · have HB := Lib.hid hb
    have HR := Lib.hid (show boolCode (chkB d n ys) (chkC d) = .tuple #[.bool false, .int .i64 0] from by unfold chkB; rw [chk_0 hv, hb, hv]; rfl)
    clear hv hb
    have tk_x1 : True := trivial
    go_enter Tryd.func38, Tryd.ntmps38
    go_wp2_with (first | (have _t := tk_x1; refine wpList_box rfl _ _ rfl _ _ rfl hM ?_; intro x1 W' hx1 hM'; clear hM tk_x1; have hM := hM'; clear hM') | (go_at_call 51; refine (HOK.out x1 _ (hM.boxed)).mono ?_; rintro e W' ⟨rfl, hb'⟩; rw [HV.out]; have hM' := hM.call hb'; clear hM hb'; have hM := hM'; clear hM') | (go_at_call 90; refine (HNU.out x1 _ (hM.ats 0 _ _ _ rfl) (HG.out.below hM.below)).mono ?_; rintro e W' ⟨rfl, hb'⟩; rw [HB.out]; have hM' := hM.call hb'; clear hM hb'; have hM := hM'; clear hM'))
    go_ret2
    rw [HR.out]
    exact ⟨rfl, hM.below⟩
  have HB := Lib.hid hb
  obtain ⟨hnn, -⟩ := numsB_iff.1 hb
  subst hnn
  have HQU := Lib.hid (fun (bh : Nat) (W : World) hB hI => l06Quarrel_any d bh b1 b2 b3 hd hOk.n hOk.l3 (some ⟨bg, 0, none⟩) d.n1 ys W hB hI)
  have HR := Lib.hid (show boolCode (chkB d d.n1 ys) (chkC d) = .tuple #[.bool (quarI d ys d.n1 d.n1).isNone, .int .i64 0] from by unfold chkB; rw [chk_0 hv, hb, hv]; rfl)
  clear hv hb hOk
  obtain ⟨n, hn'⟩ : ∃ n, d.n1 = n := ⟨_, rfl⟩
  rw [hn'] at HB HQU HR HG HNU ⊢
  rcases hq : quarI d ys n n with - | ⟨i, k⟩
  · have HP := Lib.hid (show qPair (quarI d ys n n) = .tuple #[.int .i64 (-1), .int .i64 (-1)] from by rw [hq]; rfl)
    have HS := Lib.hid (show (quarI d ys n n).isNone = true from by rw [hq]; rfl)
    clear hq
    have tk_x1 : True := trivial
    go_enter Tryd.func38, Tryd.ntmps38
    go_wp2_with (first | (have _t := tk_x1; refine wpList_box rfl _ _ rfl _ _ rfl hM ?_; intro x1 W' hx1 hM'; clear hM tk_x1; have hM := hM'; clear hM') | (go_at_call 51; refine (HOK.out x1 _ (hM.boxed)).mono ?_; rintro e W' ⟨rfl, hb'⟩; rw [HV.out]; have hM' := hM.call hb'; clear hM hb'; have hM := hM'; clear hM') | (go_at_call 90; refine (HNU.out x1 _ (hM.ats 0 _ _ _ rfl) (HG.out.below hM.below)).mono ?_; rintro e W' ⟨rfl, hb'⟩; rw [HB.out]; have hM' := hM.call hb'; clear hM hb'; have hM := hM'; clear hM') | (go_at_call 91; refine (HQU.out x1 _ (hM.boxed) (HG.out.below hM.below)).mono ?_; rintro e W' ⟨rfl, hb'⟩; rw [HP.out]; have hM' := hM.call hb'; clear hM hb'; have hM := hM'; clear hM'))
    go_ret2
    rw [HR.out, HS.out]
    exact ⟨rfl, hM.below⟩
  · have HP := Lib.hid (show qPair (quarI d ys n n) = .tuple #[.int .i64 (i : Int), .int .i64 (k : Int)] from by rw [hq]; rfl)
    have HS := Lib.hid (show (quarI d ys n n).isNone = false from by rw [hq]; rfl)
    have z1 : decide ((i : Int) < 0) = false := decide_eq_false (by omega)
    have z2 : ¬ (i : Int) < 0 := by omega
    clear hq
    have tk_x1 : True := trivial
    go_enter Tryd.func38, Tryd.ntmps38
    go_wp2_with (first | (have _t := tk_x1; refine wpList_box rfl _ _ rfl _ _ rfl hM ?_; intro x1 W' hx1 hM'; clear hM tk_x1; have hM := hM'; clear hM') | (go_at_call 51; refine (HOK.out x1 _ (hM.boxed)).mono ?_; rintro e W' ⟨rfl, hb'⟩; rw [HV.out]; have hM' := hM.call hb'; clear hM hb'; have hM := hM'; clear hM') | (go_at_call 90; refine (HNU.out x1 _ (hM.ats 0 _ _ _ rfl) (HG.out.below hM.below)).mono ?_; rintro e W' ⟨rfl, hb'⟩; rw [HB.out]; have hM' := hM.call hb'; clear hM hb'; have hM := hM'; clear hM') | (go_at_call 91; refine (HQU.out x1 _ (hM.boxed) (HG.out.below hM.below)).mono ?_; rintro e W' ⟨rfl, hb'⟩; rw [HP.out]; have hM' := hM.call hb'; clear hM hb'; have hM := hM'; clear hM'))
    go_ret2
    rw [HR.out, HS.out]
    exact ⟨rfl, hM.below⟩

/-- What the check of peace gives, one of three. -/
theorem peaceV_is (a : Nat → Addr) (d : Hd) (n : Nat) (ys : Nat → Int) : ((∃ x y : Int, peaceV a d n ys = .iface 111 (.agg #[.int .i64 x, .int .i64 y])) ∨ peaceV a d n ys = errV (a 2)) ∧ (numsB d n ys && (quarI d ys n n).isNone) = false ∨ peaceV a d n ys = .nilIface ∧ (numsB d n ys && (quarI d ys n n).isNone) = true := by
  unfold peaceV
  cases h : numsB d n ys
  · exact .inl ⟨.inr rfl, rfl⟩
  · rcases h2 : quarI d ys n n with - | ⟨i, k⟩
    · exact .inr ⟨rfl, rfl⟩
    · exact .inl ⟨.inl ⟨_, _, rfl⟩, rfl⟩

set_option maxRecDepth 100000 in
set_option maxHeartbeats 4000000 in
theorem implCheckGroups_any {a : Nat → Addr} (d : Hd) (b1 b2 b3 : Nat) (hd : FitsH d) (bg n : Nat) (ys : Nat → Int) (hn : n ≤ 1048576) (w : World) (hM0 : Mem w (hdB d b1 b2 b3) w) (hG : At w bg n (vInt64S ys)) (hE : Errs a w) (hT : Tab w) :
    Calls Tryd.prog 39 #[.agg (arr 3 (hdV d b1 b2 b3)), .slice (some ⟨bg, 0, none⟩) n n] w fun e w' => e = .returned (boolCode (chkB d n ys) (chkC d)) ∧ Below w.heap.size w w' := by
  have hM := Mem.nil w
  have H0 := Lib.hid hM0
  have HG := Lib.hid (vInt64S_ints hG)
  have HE := Lib.hid hE
  have HT := Lib.hid hT
  clear hM0 hE hT hG
  cases hv : herdB d
  · have HR := Lib.hid (show boolCode (chkB d n ys) (chkC d) = .tuple #[.bool false, .int .i64 (chkC d)] from by unfold chkB; rw [hv]; rfl)
    have hz : askC d 0 (fun _ => 0) ≠ 0 := show chkC d ≠ 0 from by rw [chk_1 hv]; decide
    have hFW := fun (W : World) hB hE hT => flockWith_bad (a := a) d b1 b2 b3 hd none 0 0 (fun _ => 0) (by omega) W hB hE hT (.inl rfl) hz
    rw [HR.out]
    unfold chkC
    clear hv HR
    obtain ⟨hv, hhv⟩ : ∃ f, hdV d b1 b2 b3 = f := ⟨_, rfl⟩
    rw [hhv] at hFW ⊢
    generalize askC d 0 (fun _ => 0) = C at *
    have HFW := Lib.hid hFW
    clear hhv hFW
    have tk_x1 : True := trivial; have tk_r1 : True := trivial; have tk_f8 : True := trivial; have tk_s1 : True := trivial
    go_enter Tryd.func39, Tryd.ntmps39
    go_wp2_with (first | (have _t := tk_x1; refine wpList_box rfl _ _ rfl _ _ rfl hM ?_; intro x1 W' hx1 hM'; clear hM tk_x1; have hM := hM'; clear hM') | (have _t := tk_r1; refine wpList_get rfl _ _ rfl _ _ rfl hM 0 rfl (rowTab _ _ rfl) (by omega) ?_; simp only [Nat.zero_add]; clear tk_r1) | (go_at_call 64; refine (HFW.out _ ((H0.out.call hM.below).base (Below.refl _ _)) (HE.out.below hM.below) (HT.out.below hM.below)).mono ?_; rintro e Wf ⟨ff, ev, rfl, hone, hEv, hb'⟩; have hM' := hM.call hb'; have hN := hEv.neq; have hGd := hEv.guard; have HEv := Lib.hid hEv; have HOne := Lib.hid hone; clear hM hb' hEv hone; have hM := hM'; clear hM') | (have _t := tk_f8; refine wpList_zero rfl _ rfl (zeroTab _ _ _ rfl) hM ?_; intro f8 W' hf8 hM'; clear hM tk_f8; have hM := hM'; clear hM') | (have _t := tk_s1; refine wpList_lay rfl _ _ _ rfl _ _ rfl _ _ rfl hM 0 rfl (by assumption) (rowTab _ _ rfl) (by omega) HOne.out ?_; intro W' hM'; clear hM tk_s1; have hM := hM'; clear hM'; simp only [List.set] at hM) | (go_at_call 65; refine (HEv.out.code (HE.out.below hM.below)).mono ?_; rintro e W' ⟨rfl, rfl⟩))
    go_ret2
    exact ⟨rfl, hM.below⟩
  have hOk := herdB_iff.1 hv
  have h14 := hOk.n
  have hB : chkB d n ys = (numsB d n ys && (quarI d ys n n).isNone) := by unfold chkB; rw [hv]; rfl
  rw [hB, chk_0 hv]
  have hFW := fun (W : World) hB hE => flockWith_ok (r := a 1) d b1 b2 b3 hd none 0 0 (fun _ => 0) (by omega) W hB hE (.inl rfl) hOk (fun j h => absurd h (by omega))
  have hPE := fun (ma : Option Addr) (mc : Nat) (W : World) hA hI hE hT => checkPeace_any (a := a) d ma mc hOk (fun i hi => hd.f i (by rw [hOk.l3]; exact hi)) (some ⟨bg, 0, none⟩) n n ys hn W hA hI hE hT
  have hPI := peaceV_is a d n ys
  obtain ⟨hv0, hhv⟩ : ∃ f, hdV d b1 b2 b3 = f := ⟨_, rfl⟩
  rw [hhv] at hFW ⊢
  generalize peaceV a d n ys = PV at hPE hPI
  generalize (numsB d n ys && (quarI d ys n n).isNone) = R at hPI ⊢
  have HFW := Lib.hid hFW
  have HPE := Lib.hid hPE
  obtain ⟨nn, hnn⟩ : ∃ nn, d.n1 = nn := ⟨_, rfl⟩
  rw [hnn] at HFW HPE
  clear hhv hFW hPE hOk hv hB hnn h14
  have fin : ∀ r : Bool, boolCode r 0 = .tuple #[.bool r, .int .i64 0] := fun r => rfl
  rcases hPI with ⟨⟨x, y, rfl⟩ | rfl, rfl⟩ | ⟨rfl, rfl⟩
  all_goals
    rw [fin]
    clear fin
    have tk_x1 : True := trivial; have tk_r1 : True := trivial; have tk_f8 : True := trivial; have tk_s1 : True := trivial
    go_enter Tryd.func39, Tryd.ntmps39
    go_wp2_with (first | (have _t := tk_x1; refine wpList_box rfl _ _ rfl _ _ rfl hM ?_; intro x1 W' hx1 hM'; clear hM tk_x1; have hM := hM'; clear hM') | (have _t := tk_r1; refine wpList_get rfl _ _ rfl _ _ rfl hM 0 rfl (rowTab _ _ rfl) (by omega) ?_; simp only [Nat.zero_add]; clear tk_r1) | (go_at_call 64; refine (HFW.out _ ((H0.out.call hM.below).base (Below.refl _ _)) ⟨(HE.out.below hM.below).vars 1 (by omega), HT.out.below hM.below⟩).mono ?_; rintro e Wf ⟨ma, mc, m, rfl, hmc, hMA, hO, hb'⟩; have hM' := hM.call hb'; have HB0 := Lib.hid hM'.below; have hM2 := hM'.base (w' := Base.of Wf) (Below.refl _ _); have HMA := Lib.hid hMA; clear hM hb' hO hMA hM'; have hM := hM2; clear hM2) | (have _t := tk_f8; refine wpList_zero rfl _ rfl (zeroTab _ _ _ rfl) hM ?_; intro f8 W' hf8 hM'; clear hM tk_f8; have hM := hM'; clear hM') | (have _t := tk_s1; refine wpList_lay rfl _ _ _ rfl _ _ rfl _ _ rfl hM 0 rfl (by assumption) (rowTab _ _ rfl) (by omega) (fun k _ => flkV_one _ _ _ _ k) ?_; intro W' hM'; have hM2 := hM'.re 0 rfl (flkV ma nn mc m) (fun k hk => by simp [lay, hk]); simp only [List.set] at hM2; clear hM hM' tk_s1; have hM := hM2; clear hM2) | (refine wpList_get1 rfl _ _ rfl _ _ rfl hM 0 rfl (cellTab _ rfl) (by omega) (.slice ma nn mc) rfl ?_) | (go_at_call 92; (with_reducible refine (HPE.out ma mc _ (HMA.out.below hM.below) ((HG.out.below HB0.out).below hM.below) ((HE.out.below HB0.out).below hM.below) ((HT.out.below HB0.out).below hM.below)).mono ?_); rintro e W' ⟨rfl, hb'⟩; have hM' := hM.call hb'; clear hM hb'; have hM := hM'; clear hM'))
    go_ret2
    exact ⟨rfl, HB0.out.trans (hM.below.mono HB0.out.size)⟩
end Go.Proofs.YthodkbmenndnoaaDoor

