/-
  Several texts in one: FoesOfC, MarkText, StringSL, Int16SL, Uint16SL, MarkHerd.
-/
import Derived.Test.YthodkbmenndnoaaDoorP9
import Derived.Test.YthodkbmenndnoaaDoorP2
import Derived.Test.YthodkbmenndnoaaDoorP4
import Derived.Laws.IdiomStrings
import Derived.Test.YthodkbmenndnoaaDoorP3
/-
  spec.FoesOf, impl.FoesOf by contracts.
-/
namespace Go.Proofs.YthodkbmenndnoaaDoor
open Go Go.RowKit Go.BigFrame

def oneY (x : Int) : Nat → Int := fun _ => x
def foesC (d : Hd) (x : Int) : Int := askC d 1 (oneY x)
def foesL (d : Hd) (x : Int) : List Nat := if foesC d x = 0 then bitsL (d.fs x.toNat).toNat else []
theorem lit1_ints {x : Int} {W : World} {b : Nat} {F : Nat → Value} (h : At W b 1 F) (hF : F = fun _ => .int .i64 x) : IntsAt W (some ⟨b, 0, none⟩) 1 (oneY x) :=
  .inr ⟨b, 1, F, rfl, by omega, fun j _ => by rw [hF]; rfl, h⟩
theorem foes_0 {d : Hd} {x : Int} (h : foesC d x = 0) : HerdOk d ∧ (∀ j, j < 1 → 0 ≤ oneY x j ∧ oneY x j < d.n1) ∧ foesL d x = bitsL (d.fs x.toNat).toNat ∧ ∃ i : Nat, x = i ∧ i < d.n1 := by
  obtain ⟨h1, h2⟩ := askC_0 h
  have hx := h2 0 (by omega)
  simp only [oneY] at hx
  refine ⟨h1, h2, by unfold foesL; rw [if_pos h], x.toNat, ?_⟩
  omega
theorem foes_no {d : Hd} {x : Int} (h : foesC d x ≠ 0) : foesL d x = [] := by unfold foesL; rw [if_neg h]
/-- What comes of it. -/
def GivesF2 (l : List Nat) (c : Int) (w : World) (e : Ending) (w' : World) : Prop := GivesR 1 l.length (vInt64S (numsF (natI l))) c w e w'
theorem GivesF2.none {l : List Nat} {cc cc' : Int} {w w' : World} {a : Option Addr} {c : Nat} (hb : Below w.heap.size w w') (hn : l = []) (hc : cc' = cc) : GivesF2 l cc w (.returned (.tuple #[.slice a 0 c, .int .i64 cc'])) w' := GivesR.none hb (by rw [hn]; rfl) hc
theorem GivesF2.some {l : List Nat} {w w' : World} {v : Value} (h : Lst w [] 1 v l.length (vI (natI l)) w') : GivesF2 l 0 w (.returned (.tuple #[v, .int .i64 0])) w' := ⟨v, rfl, h.newL⟩
/-- The foes of a goat, found one by one. -/
def foeU (d : Hd) (i : Nat) : Nat → List Nat
  | 0 => []
  | k + 1 => if foe d i k then foeU d i k ++ [k] else foeU d i k
theorem foeU_eq (d : Hd) (i : Nat) : ∀ n, foeU d i n = (List.range n).filter fun k => foe d i k
  | 0 => rfl
  | n + 1 => by
    rw [List.range_succ, List.filter_append, ← foeU_eq d i n]
    simp only [foeU, List.filter_cons, List.filter_nil]
    cases foe d i n <;> simp
theorem foeU_len (d : Hd) (i n : Nat) : (foeU d i n).length ≤ n := by
  rw [foeU_eq]
  have := List.length_filter_le (fun k => foe d i k) (List.range n)
  simpa using this
theorem foeU_bits {d : Hd} {i n : Nat} (hn : n ≤ 16) (h : (d.fs i).toNat < 2 ^ n) : foeU d i n = bitsL (d.fs i).toNat := by
  rw [foeU_eq]
  unfold bitsL
  have e : List.range 16 = List.range n ++ (List.range (16 - n)).map (n + ·) := by rw [← List.range_add]; congr 1; omega
  rw [e, List.filter_append]
  have e2 : ((List.range (16 - n)).map (n + ·)).filter (fun k => (d.fs i).toNat.testBit k) = [] := by
    rw [List.filter_eq_nil_iff]
    intro a ha
    simp at ha
    obtain ⟨q, -, rfl⟩ := ha
    rw [Nat.testBit_lt_two_pow (Nat.lt_of_lt_of_le h (Nat.pow_le_pow_right (by decide) (by omega)))]
    decide
  rw [e2, List.append_nil]
  rfl

set_option maxRecDepth 100000 in
set_option maxHeartbeats 4000000 in
theorem specFoesOf_any (d : Hd) (b1 b2 b3 : Nat) (hd : FitsH d) (x : Int) (w : World) (hM0 : Mem w (hdB d b1 b2 b3) w) :
    Calls Tryd.prog 20 #[.agg (arr 3 (hdV d b1 b2 b3)), .int .i64 x] w (GivesF2 (foesL d x) (foesC d x) w) := by
  have hM : Mem w (hdB d b1 b2 b3 ++ []) w := by rw [List.append_nil]; exact hM0
  have H0 := Lib.hid hM0
  clear hM0
  have HAC := Lib.hid (fun (bh : Nat) (a : Option Addr) (W : World) hB hG => l06Asked_any d bh b1 b2 b3 hd a 1 1 (oneY x) (by omega) W hB hG)
  by_cases hc : foesC d x = 0
  · obtain ⟨hOk, -, hB, i, rfl, hi⟩ := foes_0 hc
    have h14 := hOk.n
    have a1 : hdV d b1 b2 b3 0 = .slice (some ⟨b1, 0, none⟩) d.n1 d.n1 := rfl
    have a3 : hdV d b1 b2 b3 2 = .slice (some ⟨b3, 0, none⟩) d.n3 d.n3 := rfl
    have hfi := hd.f i (by rw [hOk.l3]; exact hi)
    have HC := Lib.hid (show askC d 1 (oneY (i : Int)) = 0 from hc)
    have HR := Lib.hid (show foesL d (i : Int) = foeU d i d.n1 ∧ foesC d (i : Int) = 0 from ⟨by rw [hB, foeU_bits (by omega)]; rfl; have := hOk.foes i hi; rw [Int.toNat_lt (by omega)]; exact_mod_cast this, hc⟩)
    have HARE := Lib.hid (fun (bh : Nat) (k : Nat) (hk : k < d.n1) (W : World) (hH : At W bh 3 (hdV d b1 b2 b3)) (h3 : At W b3 d.n3 (vUint16S d.fs)) => l06Are_at d bh b3 d.n3 d.n3 d.n3 (hdV d b1 b2 b3) (vUint16S d.fs) a3 i k (by rw [hOk.l3]; exact hi) (Nat.le_refl _) (by omega) hfi rfl W hH h3)
    clear hc hB hOk hfi
    have tk_x1 : True := trivial; have tk_l1 : True := trivial; have tk_s0 : True := trivial
    go_enter Tryd.func20, Tryd.ntmps20
    go_wp2_with (first | (have _t := tk_x1; refine wpList_box rfl _ _ rfl _ _ rfl hM ?_; intro x1 W' hx1 hM'; clear hM tk_x1; have hM := hM'; clear hM') | (have _t := tk_l1; refine wpList_lit1 rfl _ _ _ rfl (.int .i64 (i : Int)) rfl rfl _ int64s_underR int64_infoR hM ?_; intro l1 W' hl1 hM'; clear hM tk_l1; have hM := hM'; clear hM') | (go_at_call 62; refine (HAC.out x1 _ _ (hM.drop.boxed) (lit1_ints (hM.ats 0 _ _ _ rfl) rfl)).mono ?_; rintro e W' ⟨rfl, hb'⟩; rw [HC.out]; have hM' := hM.call hb'; clear hM hb'; have hM := hM'; clear hM') | (have _t := tk_s0; refine wpList_slice0 rfl _ _ rfl _ int64s_underR int64_info0 hM ?_; intro s0 W' hs0 hM'; clear hM tk_s0; have hM := hM'; clear hM'))
    have HF0 := Lib.hid (fun j (hj : j < (natI (foeU d i 0)).length * 1) => show (fun _ : Nat => undef) j = vI (natI (foeU d i 0)) j from absurd hj (by simp [foeU, natI]))
    obtain ⟨n, hn⟩ : ∃ n, d.n1 = n := ⟨_, rfl⟩
    rw [hn] at HR HARE a1 hi h14
    clear hn
    simp only [hdB, List.cons_append, List.nil_append] at hM
    generalize hdV d b1 b2 b3 = hv at *
    go_loopw [7, 8] (fun v i8 wr => ∃ k : Nat, k ≤ n ∧ i8 = .int .i64 k ∧ ∃ b c F, v = .slice (some ⟨b, 0, none⟩) (natI (foeU d i k)).length c ∧ w.heap.size ≤ b ∧ (natI (foeU d i k)).length ≤ c ∧ Hid (∀ j, j < (natI (foeU d i k)).length * 1 → F j = vI (natI (foeU d i k)) j) ∧ Mem w ((b, c * 1, F) :: (l1, 1, fun _ => Value.int .i64 (i : Int)) :: (x1, 3, hv) :: (b1, d.n1, vStringS d.ss) :: (b2, d.n2, vInt16S d.es) :: [(b3, d.n3, vUint16S d.fs)]) wr) (fun _ i8 _ => n - (intOf i8).toNat)
    case atStart => exact ⟨0, by omega, rfl, s0, 0, _, rfl, hs0, by simp [foeU, natI], HF0, hM⟩
    case round =>
      clear hM
      obtain ⟨k, hk, rfl, b, c, F, rfl, hbb, hnc, hF, hM⟩ := hrel
      by_cases hlt : k < n
      · have l2 : (k : Int) < n := by omega
        have hlen : (natI (foeU d i k)).length ≤ 1048576 := by rw [natI_len]; have := foeU_len d i k; omega
        have HN := Lib.hid (fun (h : foe d i k = true) => show natI (foeU d i (k + 1)) = natI (foeU d i k) ++ [(k : Int)] from by simp [foeU, h, natI])
        have HN2 := Lib.hid (fun (h : foe d i k = false) => show natI (foeU d i (k + 1)) = natI (foeU d i k) from by simp [foeU, h])
        generalize natI (foeU d i k) = rl at *
        have Hnew := Lib.hid (fun j (hj : j < 1) => vI_new rl (k : Int) hj)
        have Hf := Lib.hid (fun j (hj : j < rl.length * 1) => (hF.out j hj).trans (vI_old rl (k : Int) hj))
        cases hfo : foe d i k
        · have HFo := Lib.hid hfo
          have HE := Lib.hid (HN2.out hfo)
          clear hfo HN HN2
          go_wp2_with (first | (refine wpList_get1 rfl _ _ rfl _ _ rfl hM 2 rfl (cellTab _ rfl) (by omega) _ a1 ?_) | (go_at_call 63; refine (HARE.out x1 k hlt _ (hM.ats 2 _ _ _ rfl) (hM.ats 5 _ _ _ rfl)).mono ?_; rintro e W' ⟨rfl, hb'⟩; rw [HFo.out]; have hM' := hM.call hb'; clear hM hb'; have hM := hM'; clear hM'))
          go_roundw
          case rel => exact ⟨k + 1, by omega, by go_num, b, c, F, by rw [HE.out], hbb, by rw [HE.out]; exact hnc, by rw [HE.out]; exact hF, hM⟩
          case measure => simp [intOf]; omega
        · have HFo := Lib.hid hfo
          have HE := Lib.hid (HN.out hfo)
          clear hfo HN HN2
          have tk_l2b : True := trivial; have tk_p1 : True := trivial
          go_wp2_with (first | (refine wpList_get1 rfl _ _ rfl _ _ rfl hM 2 rfl (cellTab _ rfl) (by omega) _ a1 ?_) | (go_at_call 63; refine (HARE.out x1 k hlt _ (hM.ats 2 _ _ _ rfl) (hM.ats 5 _ _ _ rfl)).mono ?_; rintro e W' ⟨rfl, hb'⟩; rw [HFo.out]; have hM' := hM.call hb'; clear hM hb'; have hM := hM'; clear hM') | (have _t := tk_l2b; refine wpList_lit1 rfl _ _ _ rfl (.int .i64 (k : Int)) rfl rfl _ int64s_underR int64_infoR hM ?_; intro l2b W' hl2b hM'; clear hM tk_l2b; have hM := hM'; clear hM') | (have _t := tk_p1; refine wpList_push1 rfl _ _ _ rfl _ 1 _ _ int64s_underR infoInt64S rfl (by omega) _ _ _ _ rfl hbb hnc hlen _ _ rfl i64_one hM (vI (rl ++ [(k : Int)])) Hf.out Hnew.out ?_; intro bL cL FL W' hbL hcL hFL hM'; clear hM tk_p1; have hM := hM'; clear hM'))
          go_roundw
          case rel => exact ⟨k + 1, by omega, by go_num, bL, cL, FL, by rw [HE.out, List.length_append]; rfl, hbL, by rw [HE.out, List.length_append]; exact hcL, by rw [HE.out, List.length_append]; exact Lib.hid hFL, hM⟩
          case measure => simp [intOf]; omega
      · obtain rfl : k = n := by omega
        go_wp2_with (first | (refine wpList_get1 rfl _ _ rfl _ _ rfl hM 2 rfl (cellTab _ rfl) (by omega) _ a1 ?_))
        go_ret2
        rw [HR.out.1, HR.out.2]
        have hL : Lst w _ 1 (.slice (some ⟨b, 0, none⟩) (natI (foeU d i k)).length c) (natI (foeU d i k)).length (vI (natI (foeU d i k))) wr := .inr ⟨b, c, F, rfl, hbb, hnc, hF.out, hM⟩
        rw [natI_len] at hL ⊢
        exact GivesF2.some hL.only
  · have hz : askC d 1 (oneY x) ≠ 0 := hc
    have HR := Lib.hid (foes_no hc)
    unfold foesC
    clear hc
    generalize askC d 1 (oneY x) = C at *
    have z1 : (C != 0) = true := bne_iff_ne.2 hz
    have z2 : (C == 0) = false := beq_eq_false_iff_ne.2 hz
    have tk_x1 : True := trivial; have tk_l1 : True := trivial; have tk_s0 : True := trivial
    go_enter Tryd.func20, Tryd.ntmps20
    go_wp2_with (first | (have _t := tk_x1; refine wpList_box rfl _ _ rfl _ _ rfl hM ?_; intro x1 W' hx1 hM'; clear hM tk_x1; have hM := hM'; clear hM') | (have _t := tk_l1; refine wpList_lit1 rfl _ _ _ rfl (.int .i64 x) rfl rfl _ int64s_underR int64_infoR hM ?_; intro l1 W' hl1 hM'; clear hM tk_l1; have hM := hM'; clear hM') | (go_at_call 62; (with_reducible refine (HAC.out x1 _ _ (hM.drop.boxed) (lit1_ints (hM.ats 0 _ _ _ rfl) rfl)).mono ?_); rintro e W' ⟨rfl, hb'⟩; have hM' := hM.call hb'; clear hM hb'; have hM := hM'; clear hM') | (have _t := tk_s0; refine wpList_slice0 rfl _ _ rfl _ int64s_underR int64_info0 hM ?_; intro s0 W' hs0 hM'; clear hM tk_s0; have hM := hM'; clear hM'))
    go_ret2
    exact GivesF2.none hM.below HR.out rfl
theorem Lst.rise {w0 w1 : World} {K : Blocks} {m n : Nat} {v : Value} {R : Nat → Value} {W : World} (hM : Mem w0 K w1) (h : Lst w1 [] m v n R W) : Lst w0 [] m v n R W ∧ Below w1.heap.size w1 W := by
  rcases h with ⟨h1, h2, h⟩ | ⟨b, c, F, h1, h2, h3, h4, h⟩
  · exact ⟨.inl ⟨h1, h2, Mem.start (hM.call h.below).good⟩, h.below⟩
  · exact ⟨.inr ⟨b, c, F, h1, Nat.le_trans hM.size h2, h3, h4, h.base (hM.call h.below).good⟩, h.below⟩
/-- A goat's foes out of the program's goats. -/
theorem MemsAt.foes {W : World} {a : Option Addr} {n : Nat} {d : Hd} (h : MemsAt W a n d) {i : Nat} (hi : i < n) {s : Nat} (hs : d.fs i = s) : ∃ b N F, a = some ⟨b, 0, none⟩ ∧ i * 3 + 2 < N ∧ F (i * 3 + 2) = .int .u16 s ∧ At W b N F := by
  obtain ⟨b, N, F, h1, h2, -, h3, h4⟩ := h.row hi
  exact ⟨b, N, F, h1, by omega, (h3 2 (by omega)).trans (by rw [← hs]; rfl), h4⟩
set_option maxRecDepth 100000 in
set_option maxHeartbeats 4000000 in
theorem implFoesOf_any {a : Nat → Addr} (d : Hd) (b1 b2 b3 : Nat) (hd : FitsH d) (x : Int) (w : World) (hM0 : Mem w (hdB d b1 b2 b3) w) (hE : Errs a w) (hT : Tab w) :
    Calls Tryd.prog 21 #[.agg (arr 3 (hdV d b1 b2 b3)), .int .i64 x] w (GivesF2 (foesL d x) (foesC d x) w) := by
  have hM := Mem.nil w
  have H0 := Lib.hid hM0
  have HE := Lib.hid hE
  have HT := Lib.hid hT
  clear hM0 hE hT
  by_cases hc : foesC d x = 0
  · obtain ⟨hOk, hys, hB, i, rfl, hi⟩ := foes_0 hc
    have h14 := hOk.n
    have hfi := hd.f i (by rw [hOk.l3]; exact hi)
    obtain ⟨s, hs⟩ : ∃ s : Nat, d.fs i = s := ⟨(d.fs i).toNat, by omega⟩
    have hs2 : s < 65536 := by omega
    have HR := Lib.hid (show foesL d (i : Int) = bitsL s ∧ foesC d (i : Int) = 0 from ⟨by rw [hB, Int.toNat_natCast, hs]; rfl, hc⟩)
    have Hs := Lib.hid hs
    have hFW := fun (ga : Option Addr) (W : World) hB hE hG => flockWith_ok (r := a 1) d b1 b2 b3 hd ga 1 1 (oneY (i : Int)) (by omega) W hB hE hG hOk hys
    clear hc hB hys hs hfi
    obtain ⟨hv, hhv⟩ : ∃ f, hdV d b1 b2 b3 = f := ⟨_, rfl⟩
    rw [hhv] at hFW ⊢
    have HFW := Lib.hid hFW
    obtain ⟨n, hn⟩ : ∃ n, d.n1 = n := ⟨_, rfl⟩
    rw [hn] at HFW hi
    have l2 : (i : Int) < n := by omega
    clear hhv hFW hOk
    have tk_x1 : True := trivial; have tk_r1 : True := trivial; have tk_l1 : True := trivial; have tk_f8 : True := trivial; have tk_s1 : True := trivial; have tk_m1 : True := trivial
    go_enter Tryd.func21, Tryd.ntmps21
    go_wp2_with (first | (have _t := tk_x1; refine wpList_box rfl _ _ rfl _ _ rfl hM ?_; intro x1 W' hx1 hM'; clear hM tk_x1; have hM := hM'; clear hM') | (have _t := tk_r1; refine wpList_get rfl _ _ rfl _ _ rfl hM 0 rfl (rowTab _ _ rfl) (by omega) ?_; simp only [Nat.zero_add]; clear tk_r1) | (have _t := tk_l1; refine wpList_lit1 rfl _ _ _ rfl (.int .i64 (i : Int)) rfl rfl _ int64s_underR int64_infoR hM ?_; intro l1 W' hl1 hM'; clear hM tk_l1; have hM := hM'; clear hM') | (go_at_call 64; refine (HFW.out _ _ ((H0.out.call hM.below).base (Below.refl _ _)) ⟨(HE.out.below hM.below).vars 1 (by omega), HT.out.below hM.below⟩ (lit1_ints (hM.ats 0 _ _ _ rfl) rfl)).mono ?_; rintro e Wf ⟨ma, mc, m, rfl, hmc, hMA, hO, hb'⟩; obtain ⟨bm, Nm, Fm, rfl, hNm, hFm, hAm⟩ := hMA.foes hi Hs.out; have hM' := hM.call hb'; have HB0 := Lib.hid hM'.below; have hM2 := hM'.base (w' := Base.of Wf) (Below.refl _ _); have HAm := Lib.hid hAm; clear hM hb' hO hMA hM' hAm; have hM := hM2; clear hM2) | (have _t := tk_f8; refine wpList_zero rfl _ rfl (zeroTab _ _ _ rfl) hM ?_; intro f8 W' hf8 hM'; clear hM tk_f8; have hM := hM'; clear hM') | (have _t := tk_s1; refine wpList_lay rfl _ _ _ rfl _ _ rfl _ _ rfl hM 0 rfl (by assumption) (rowTab _ _ rfl) (by omega) (fun k _ => flkV_one _ _ _ _ k) ?_; intro W' hM'; have hM2 := hM'.re 0 rfl (flkV (some ⟨bm, 0, none⟩) n mc m) (fun k hk => by simp [lay, hk]); simp only [List.set] at hM2; clear hM hM' tk_s1; have hM := hM2; clear hM2) | (have _t := tk_m1; refine wpList_get1 rfl _ _ rfl _ _ rfl hM 0 rfl (cellTab _ rfl) (by omega) (.slice (some ⟨bm, 0, none⟩) n mc) rfl ?_; clear tk_m1) | (refine wpList_getAt1 rfl _ _ rfl _ _ rfl (HAm.out.below hM.below HAm.out.lt) (cellTab _ rfl) hNm _ hFm ?_) | (go_at_call 66; refine (list_any s hs2 _ ((HT.out.below HB0.out).below hM.below)).mono ?_; rintro e W' ⟨v, rfl, hL⟩; have HL := Lib.hid hL; clear hL))
    go_ret2
    rw [HR.out.1, HR.out.2]
    have hU := Lst.rise ((hM.base (w' := Base.of w) (HB0.out.trans (hM.below.mono HB0.out.size)))) HL.out
    exact GivesF2.some hU.1
  · have hz : askC d 1 (oneY x) ≠ 0 := hc
    have HR := Lib.hid (foes_no hc)
    have hFW := fun (ga : Option Addr) (W : World) hB hE hT hG => flockWith_bad (a := a) d b1 b2 b3 hd ga 1 1 (oneY x) (by omega) W hB hE hT hG hz
    unfold foesC
    clear hc
    obtain ⟨hv, hhv⟩ : ∃ f, hdV d b1 b2 b3 = f := ⟨_, rfl⟩
    rw [hhv] at hFW ⊢
    generalize askC d 1 (oneY x) = C at *
    have HFW := Lib.hid hFW
    clear hhv hFW
    have tk_x1 : True := trivial; have tk_r1 : True := trivial; have tk_l1 : True := trivial; have tk_f8 : True := trivial; have tk_s1 : True := trivial
    go_enter Tryd.func21, Tryd.ntmps21
    go_wp2_with (first | (have _t := tk_x1; refine wpList_box rfl _ _ rfl _ _ rfl hM ?_; intro x1 W' hx1 hM'; clear hM tk_x1; have hM := hM'; clear hM') | (have _t := tk_r1; refine wpList_get rfl _ _ rfl _ _ rfl hM 0 rfl (rowTab _ _ rfl) (by omega) ?_; simp only [Nat.zero_add]; clear tk_r1) | (have _t := tk_l1; refine wpList_lit1 rfl _ _ _ rfl (.int .i64 x) rfl rfl _ int64s_underR int64_infoR hM ?_; intro l1 W' hl1 hM'; clear hM tk_l1; have hM := hM'; clear hM') | (go_at_call 64; refine (HFW.out _ _ ((H0.out.call hM.below).base (Below.refl _ _)) (HE.out.below hM.below) (HT.out.below hM.below) (lit1_ints (hM.ats 0 _ _ _ rfl) rfl)).mono ?_; rintro e Wf ⟨ff, ev, rfl, hone, hEv, hb'⟩; have hM' := hM.call hb'; have hN := hEv.neq; have hGd := hEv.guard; have HEv := Lib.hid hEv; have HOne := Lib.hid hone; clear hM hb' hEv hone; have hM := hM'; clear hM') | (have _t := tk_f8; refine wpList_zero rfl _ rfl (zeroTab _ _ _ rfl) hM ?_; intro f8 W' hf8 hM'; clear hM tk_f8; have hM := hM'; clear hM') | (have _t := tk_s1; refine wpList_lay rfl _ _ _ rfl _ _ rfl _ _ rfl hM 0 rfl (by assumption) (rowTab _ _ rfl) (by omega) HOne.out ?_; intro W' hM'; clear hM tk_s1; have hM := hM'; clear hM'; simp only [List.set] at hM) | (go_at_call 65; refine (HEv.out.code (HE.out.below hM.below)).mono ?_; rintro e W' ⟨rfl, rfl⟩))
    go_ret2
    exact GivesF2.none hM.below HR.out rfl
end Go.Proofs.YthodkbmenndnoaaDoor

/-
  laws.markText by contract: the same text for the same number.
-/
namespace Go.Proofs.YthodkbmenndnoaaDoor
open Go Go.RowKit Go.BigFrame

def digB (k : Nat) : ByteArray := ⟨#[UInt8.ofNat (48 + k % 10)]⟩
def digs : Nat → Nat → ByteArray → ByteArray
  | 0, _, acc => acc
  | f + 1, k, acc => if k = 0 then acc else digs f (k / 10) (digB k ++ acc)
def mtxt (k : Nat) : ByteArray := if k = 0 then ⟨#[109, 48]⟩ else ⟨#[109]⟩ ++ digs 20 k ⟨#[]⟩
theorem wpList_byte {ops : Array Oper} {rest : List Oper} {o : Oper} {a : Act} {w : Base} {L : Blocks} {W : World} {Q : Exit → Act → World → Prop} (hgd : o.guard = none) (x : Operand) (ho : o.op = .convert 153 9 x) (b : Nat) (hx : a.eval x = .slice (some ⟨b, 0, none⟩) 1 1)
    (hM : Mem w L W) (i : Nat) {f : Nat → Value} (hi : L[i]? = some (b, 1, f)) (d : Nat) (hd : d < 10) (hf : f 0 = .int .u8 ((48 + d : Nat) : Int)) (u : UInt8) (hu : UInt8.ofNat (48 + d) = u)
    (h : wpList Tryd.prog ops Q rest (a.put o.dst (.string ⟨#[u]⟩)) W) : wpList Tryd.prog ops Q (o :: rest) a W := by
  subst hu
  refine wpList_plain hgd fun K hK => ?_
  have hc := (hM.ats i b 1 f hi).cell (k := 0) (by omega)
  have hr := run_convert_bytes_back (P := Tryd.prog) W 153 9 5 ⟨b, 0, none⟩ 1 [UInt8.ofNat (48 + d)] Tryd.underlying153 Tryd.underlying5 Tryd.underlying9 (fun j hj => by
    have hj0 : j = 0 := by simpa using hj
    subst hj0
    have e : (⟨b, 0, none⟩ : Addr).add 0 = ⟨b, 0, none⟩ := by simp [Addr.add]
    rw [e, hc, hf]
    have : (UInt8.ofNat (48 + d)).toNat = 48 + d := by simp; omega
    rw [List.getElem_cons_zero, this])
  unfold Oper.wp execOp
  simp only [ho, hx, Sem.run_bind, Sem.run_pure, Result.andThen_ok]
  simp only [List.length_cons, List.length_nil, Nat.zero_add] at hr
  rw [hr]
  exact hK _ _ h
theorem bytes_under : Tryd.prog.underlying 153 = some (.slice 5) := Tryd.underlying153
theorem byte_info : (Tryd.prog.info? 5).map (fun i => (i.size, i.zero)) = some (1, some (.int .u8 0)) := by kernel_rfl
theorem digs_step {f r : Nat} {acc : ByteArray} (hr : r ≠ 0) : digs (f + 1) r acc = digs f (r / 10) (digB r ++ acc) := by simp [digs, hr]
theorem digs_zero {f : Nat} {acc : ByteArray} : digs f 0 acc = acc := by cases f <;> simp [digs]
set_option maxRecDepth 100000 in
set_option maxHeartbeats 1000000 in
theorem markText_any (k : Nat) (hk : k ≤ 1000000000) (w : World) :
    Calls Tryd.prog 110 #[.int .i64 k] w fun e w' => e = .returned (.string (mtxt k)) ∧ Below w.heap.size w w' := by
  have hM := Mem.nil w
  by_cases h0 : k = 0
  · subst h0
    go_enter Tryd.func110, Tryd.ntmps110
    go_wp2
    go_ret
    exact ⟨rfl, hM.below⟩
  have hpos : 0 < (k : Int) := by omega
  have d0 : decide ((k : Int) ≤ 0) = false := decide_eq_false (by omega)
  go_enter Tryd.func110, Tryd.ntmps110
  go_wp2
  go_loopw [0, 3] (fun x s wr => ∃ (f r : Nat) (acc : ByteArray), x = .int .i64 r ∧ s = .string acc ∧ r ≤ 1000000000 ∧ r < 10 ^ f ∧ acc.size + f ≤ 20 ∧ Hid (digs f r acc = digs 20 k ⟨#[]⟩) ∧ Mem w [] wr) (fun x _ _ => (intOf x).toNat)
  case atStart => exact ⟨20, k, ⟨#[]⟩, rfl, rfl, hk, by omega, by decide, Lib.hid rfl, hM⟩
  case round =>
    clear hM
    obtain ⟨f, r, acc, rfl, rfl, hr, hrf, hf, hd, hM⟩ := hrel
    have hs1 : ({ data := #[109] } : ByteArray).size = 1 := rfl
    by_cases hz : r = 0
    · subst hz
      have HZ := Lib.hid (show (⟨#[109]⟩ ++ acc : ByteArray) = mtxt k from by unfold mtxt; rw [if_neg h0, ← hd.out, digs_zero])
      go_wp2
      try (any_goals (exfalso; omega))
      go_ret
      rw [← HZ.out]
      exact ⟨rfl, hM.below⟩
    · have l1 : (0 : Int) < r := by omega
      obtain ⟨f, rfl⟩ : ∃ f', f = f' + 1 := ⟨f - 1, by
        rcases f with _ | f
        · simp at hrf; omega
        · rfl⟩
      have hdiv : r / 10 < 10 ^ f := by rw [Nat.pow_succ] at hrf; omega
      obtain ⟨d, hdd⟩ : ∃ d, r % 10 = d := ⟨_, rfl⟩
      have hd10 : d < 10 := by omega
      have c1 : (r : Int) % 10 = (d : Int) := by omega
      have cm : Int.tmod (r : Int) 10 = (d : Int) := by rw [Int.tmod_eq_emod_of_nonneg (by omega)]; exact c1
      have c2 : IntKind.u8.wrap (48 + (d : Int)) = ((48 + d : Nat) : Int) := by rw [IntWalk.u8_in _ (by omega)]; omega
      have HD := Lib.hid (show digs f (r / 10) (⟨#[UInt8.ofNat (48 + d)]⟩ ++ acc) = digs 20 k ⟨#[]⟩ from by rw [← hd.out, digs_step hz, digB, hdd])
      obtain ⟨u, hu⟩ : ∃ u : UInt8, UInt8.ofNat (48 + d) = u := ⟨_, rfl⟩
      rw [hu] at HD
      have HU := Lib.hid hu
      have hs2 : ({ data := #[u] } : ByteArray).size = 1 := rfl
      have HS := Lib.hid (show ((⟨#[u]⟩ : ByteArray) ++ acc).size + f ≤ 20 from by rw [ByteArray.size_append, hs2]; omega)
      clear hd hdd hrf hu
      have tk_l1b : True := trivial
      go_wp2_with (first | (have _t := tk_l1b; refine wpList_lit1 rfl _ _ _ rfl (.int .u8 ((48 + d : Nat) : Int)) (by first | rfl | exact congrArg (Value.int .u8) c2) rfl _ bytes_under byte_info hM ?_; intro lb W' hlb hM'; clear hM tk_l1b; have hM := hM'; clear hM') | (refine wpList_byte rfl _ rfl _ rfl hM 0 rfl d hd10 rfl u HU.out ?_))
      go_roundw
      case rel => exact ⟨f, r / 10, _, by go_num, rfl, by omega, hdiv, HS.out, HD, hM.drop⟩
      case measure => simp [intOf]; omega
end Go.Proofs.YthodkbmenndnoaaDoor

/-
  laws.eqStringS, markStringS, heldStringS over lists that hold room behind their end.
-/
namespace Go.Proofs.YthodkbmenndnoaaDoor
open Go Go.RowKit Go.BigFrame Go.ChangeShapes Go.WideShapes Go.Deep

theorem eqStringS_zero (a a' : Option Addr) (c c' : Nat) (w : World) : Calls Tryd.prog 59 #[.slice a 0 c, .slice a' 0 c'] w fun e w' => e = .returned (.bool true) ∧ Below w.heap.size w w' := by
  go_enter Tryd.func59, Tryd.ntmps59
  go_wp2
  refine wp_loop_rounds 1 ?_
  rw [rounds_succ]
  go_wp2
  go_ret
  exact ⟨rfl, Below.refl _ _⟩
theorem markStringS_zero (a : Option Addr) (c : Nat) (k : Int) (w : World) : Calls Tryd.prog 67 #[.slice a 0 c, .int .i64 k] w fun e w' => e = .returned (.int .i64 k) ∧ Below w.heap.size w w' := by
  go_enter Tryd.func67, Tryd.ntmps67
  go_wp2
  refine wp_loop_rounds 1 ?_
  rw [rounds_succ]
  go_wp2
  go_ret
  exact ⟨rfl, Below.refl _ _⟩
theorem heldStringS_zero (a : Option Addr) (c : Nat) (k : Int) (w : World) : Calls Tryd.prog 75 #[.slice a 0 c, .int .i64 k] w fun e w' => e = .returned (.int .i64 k) ∧ Below w.heap.size w w' := by
  go_enter Tryd.func75, Tryd.ntmps75
  go_wp2
  refine wp_loop_rounds 1 ?_
  rw [rounds_succ]
  go_wp2
  go_ret
  exact ⟨rfl, Below.refl _ _⟩

set_option maxRecDepth 100000 in
set_option maxHeartbeats 1000000 in
/-- eqStringS of two lists that hold the same. -/
theorem eqStringS_list (b b' n c c' N N' : Nat) (F F' : Nat → Value) (ys : Nat → ByteArray) (hF : ∀ j, j < n → F j = vStringS ys j) (hF' : ∀ j, j < n → F' j = vStringS ys j) (hN : n ≤ N) (hN' : n ≤ N') (hn : n ≤ 1048576) (w : World) (hA : At w b N F) (hA' : At w b' N' F') (hne : b ≠ b') :
    Calls Tryd.prog 59 #[.slice (some ⟨b, 0, none⟩) n c, .slice (some ⟨b', 0, none⟩) n c'] w fun e w' => e = .returned (.bool true) ∧ Below w.heap.size w w' := by
  have hM : Mem w [(b, N, F), (b', N', F')] w := ((Mem.nil w).old hA (fun i p h => by simp at h)).old hA' (fun i p h => by
    match i, h with
    | 0, h => simp at h; rw [← h]; exact hne
    | _ + 1, h => simp at h)
  have Hf := Lib.hid hF
  have Hf' := Lib.hid hF'
  clear hA hA' hF hF'
  go_enter Tryd.func59, Tryd.ntmps59
  go_wp2
  go_loopw [5] (fun i wr => ∃ k : Nat, k ≤ n ∧ i = .int .i64 k ∧ Mem w [(b, N, F), (b', N', F')] wr) (fun i _ => n - (intOf i).toNat)
  case atStart => exact ⟨0, by omega, rfl, hM⟩
  case round =>
    clear hM
    obtain ⟨k, hk, rfl, hM⟩ := hrel
    by_cases hlt : k < n
    · have l2 : (k : Int) < n := by omega
      have c1 : F k = .string (ys k) := Hf.out k hlt
      have c2 : F' k = .string (ys k) := Hf'.out k hlt
      generalize ys k = yk at c1 c2
      have hb : (yk.toList == yk.toList) = true := BEq.rfl
      go_wp2
      ((try simp only [Act.put, List.setIfInBounds_toArray, List.set_cons_succ, List.set_cons_zero]); refine wp_region_mem (by kernel_rfl) (by kernel_rfl) hM ?_; clear hM; (repeat (first | go_big_quiet_skip | (go_big_quiet_want; first | (refine quiet_get1 _ _ rfl _ _ rfl 1 rfl cellStringS (by omega) _ c2 ?_; (simp only [Act.put, List.setIfInBounds_toArray, List.set_cons_succ, List.set_cons_zero]); go_big_quiet_on) | (refine quiet_get1 _ _ rfl _ _ rfl 0 rfl cellStringS (by omega) _ c1 ?_; (simp only [Act.put, List.setIfInBounds_toArray, List.set_cons_succ, List.set_cons_zero]); go_big_quiet_on) | (refine quiet_val ?_; apply Exists.intro; refine ⟨fun W => ?_, ?_⟩; (go_simp; (try simp only [l2, hb, if_true, Bool.false_eq_true, if_false]); rfl); (simp only [Act.put, List.setIfInBounds_toArray, List.set_cons_succ, List.set_cons_zero]); go_big_quiet_on)))); (with_reducible refine wpQuiet_nil ?_); intro W' hM)
      go_wp2
      go_roundw
      case rel => exact ⟨k + 1, by omega, by go_num, hM⟩
      case measure => simp [intOf]; omega
    · obtain rfl : k = n := by omega
      go_wp2
      go_ret
      exact ⟨rfl, hM.below⟩

/-- The mark j, as a cell. -/
def mkString (j : Nat) : Value := .string (mtxt j)
set_option maxRecDepth 100000 in
set_option maxHeartbeats 1000000 in
/-- markStringS writes its marks into the list. -/
theorem markStringS_list (b0 : Base) (K : Blocks) (b n c N k0 : Nat) (F : Nat → Value) (hN : n ≤ N) (hn : n ≤ 1048576) (hk0 : k0 ≤ 100000000) (hb : b0.B ≤ b) (w : World) (hM0 : Mem b0 ((b, N, F) :: K) w) :
    Calls Tryd.prog 67 #[.slice (some ⟨b, 0, none⟩) n c, .int .i64 k0] w fun e w' => e = .returned (.int .i64 ((k0 + n : Nat) : Int)) ∧ ∃ G, (∀ j, j < n → G j = mkString (k0 + j)) ∧ Mem b0 ((b, N, G) :: K) w' := by
  have hM := hM0
  clear hM0
  go_enter Tryd.func67, Tryd.ntmps67
  go_wp2
  go_loopw [1, 5] (fun t i wr => ∃ k : Nat, k ≤ n ∧ t = .int .i64 ((k0 + k : Nat) : Int) ∧ i = .int .i64 k ∧ ∃ G, Hid (∀ j, j < k → G j = mkString (k0 + j)) ∧ Mem b0 ((b, N, G) :: K) wr) (fun _ i _ => n - (intOf i).toNat)
  case atStart => exact ⟨0, by omega, by simp, rfl, F, Lib.hid (fun j hj => absurd hj (by omega)), hM⟩
  case round =>
    clear hM
    obtain ⟨k, hk, rfl, rfl, G, hG, hM⟩ := hrel
    by_cases hlt : k < n
    · have l2 : (k : Int) < n := by omega
      obtain ⟨mm, hm⟩ : ∃ m : Nat, m = k0 + k := ⟨_, rfl⟩
      rw [← hm]
      have n1 : IntKind.i64.wrap ((mm : Int) + 1) = (mm : Int) + 1 := IntWalk.i64_in _ (by omega)
      have n2 : IntKind.i64.wrap (mm : Int) = (mm : Int) := IntWalk.i64_in _ (by omega)
      have hl : (mm : Int) + 1 = ((k0 + (k + 1) : Nat) : Int) := by omega
      have Hl := Lib.hid hl
      have Hm := Lib.hid hm
      clear hm hl
      have hm3 : mm ≤ 1000000000 := by have := Hm.out; omega
      obtain ⟨xx, hxx⟩ : ∃ x, mtxt mm = x := ⟨_, rfl⟩
      have Hxx := Lib.hid hxx
      clear hxx
      go_wp2_with (first | (go_at_call 110; refine (markText_any mm hm3 _).mono ?_; rintro e W' ⟨rfl, hb'⟩; rw [Hxx.out]; have hM' := hM.call hb'; clear hM hb'; have hM := hM'; clear hM') | (refine wpList_set1 rfl _ _ _ rfl _ _ rfl _ rfl ?_ hM 0 rfl (by assumption) (cellTab _ rfl) (by omega) ?_; (first | rfl | exact h1 _); intro W' hM'; clear hM; have hM := hM'; clear hM'; simp [List.set, Act.eval] at hM))
      go_roundw
      case rel => exact ⟨k + 1, by omega, by first | exact congrArg (Value.int .i64) Hl.out | rfl, by go_num, _, Lib.hid (fun j hj => by
        simp only [upd]
        by_cases e0 : j = k
        · rw [if_pos e0, e0, ← Hm.out]; exact congrArg Value.string Hxx.out.symm
        · rw [if_neg e0]; exact hG.out j (by omega)), hM⟩
      case measure => simp [intOf]; omega
    · obtain rfl : k = n := by omega
      go_wp2
      go_ret
      exact ⟨rfl, G, hG.out, hM⟩

set_option maxRecDepth 100000 in
set_option maxHeartbeats 1000000 in
/-- heldStringS finds the marks. -/
theorem heldStringS_list (b n c N k0 : Nat) (G : Nat → Value) (hN : n ≤ N) (hn : n ≤ 1048576) (hk0 : k0 ≤ 100000000) (hG : ∀ j, j < n → G j = mkString (k0 + j)) (w : World) (hA : At w b N G) :
    Calls Tryd.prog 75 #[.slice (some ⟨b, 0, none⟩) n c, .int .i64 k0] w fun e w' => e = .returned (.int .i64 ((k0 + n : Nat) : Int)) ∧ Below w.heap.size w w' := by
  have hM : Mem w [(b, N, G)] w := (Mem.nil w).old hA (fun i p h => by simp at h)
  have Hg := Lib.hid hG
  clear hA hG
  go_enter Tryd.func75, Tryd.ntmps75
  go_wp2
  go_loopw [1, 5] (fun t i wr => ∃ k : Nat, k ≤ n ∧ t = .int .i64 ((k0 + k : Nat) : Int) ∧ i = .int .i64 k ∧ Mem w [(b, N, G)] wr) (fun _ i _ => n - (intOf i).toNat)
  case atStart => exact ⟨0, by omega, by simp, rfl, hM⟩
  case round =>
    clear hM
    obtain ⟨k, hk, rfl, rfl, hM⟩ := hrel
    by_cases hlt : k < n
    · have l2 : (k : Int) < n := by omega
      obtain ⟨mm, hm⟩ : ∃ m : Nat, m = k0 + k := ⟨_, rfl⟩
      obtain ⟨xx, hxx⟩ : ∃ x, mtxt mm = x := ⟨_, rfl⟩
      have g0 : G k = .string xx := by rw [Hg.out k hlt, ← hxx, hm]; rfl
      have nx : (xx.toList == xx.toList) = true := BEq.rfl
      have hm3 : mm ≤ 1000000000 := by omega
      have Hxx := Lib.hid hxx
      rw [← hm]
      have n1 : IntKind.i64.wrap ((mm : Int) + 1) = (mm : Int) + 1 := IntWalk.i64_in _ (by omega)
      have n2 : IntKind.i64.wrap (mm : Int) = (mm : Int) := IntWalk.i64_in _ (by omega)
      have hl : (mm : Int) + 1 = ((k0 + (k + 1) : Nat) : Int) := by omega
      have Hl := Lib.hid hl
      clear hm hl
      go_wp2
      ((try simp only [Act.put, List.setIfInBounds_toArray, List.set_cons_succ, List.set_cons_zero]); refine wp_region_mem (by kernel_rfl) (by kernel_rfl) hM ?_; clear hM; (repeat (first | go_big_quiet_skip | (go_big_quiet_want; first | (refine quiet_get1 _ _ rfl _ _ rfl 0 rfl (cellTab _ rfl) (by omega) _ (g0) ?_; (simp only [Act.put, List.setIfInBounds_toArray, List.set_cons_succ, List.set_cons_zero]); go_big_quiet_on) | (refine quiet_call ?_; apply Exists.intro; apply Exists.intro; apply Exists.intro; refine ⟨fun W => ?_, fun W hM => ?_, ?_⟩; (go_simp; exact ⟨rfl, rfl⟩); (with_reducible exact markText_any mm hm3 W); (simp only [Hxx.out]); (simp only [Act.put, List.setIfInBounds_toArray, List.set_cons_succ, List.set_cons_zero]); go_big_quiet_on) | (refine quiet_val ?_; apply Exists.intro; refine ⟨fun W => ?_, ?_⟩; (go_simp; (try simp only [nx, if_true, Bool.false_eq_true, if_false]); rfl); (simp only [Act.put, List.setIfInBounds_toArray, List.set_cons_succ, List.set_cons_zero]); go_big_quiet_on)))); (with_reducible refine wpQuiet_nil ?_); intro W' hM)
      go_wp2
      go_roundw
      case rel => exact ⟨k + 1, by omega, by first | exact congrArg (Value.int .i64) Hl.out | rfl, by go_num, hM⟩
      case measure => simp [intOf]; omega
    · obtain rfl : k = n := by omega
      go_wp2
      go_ret
      exact ⟨rfl, hM.below⟩
end Go.Proofs.YthodkbmenndnoaaDoor

/-
  laws.eqInt16S, markInt16S, heldInt16S over lists that hold room behind their end.
-/
namespace Go.Proofs.YthodkbmenndnoaaDoor
open Go Go.RowKit Go.BigFrame Go.ChangeShapes Go.WideShapes Go.Deep

theorem eqInt16S_zero (a a' : Option Addr) (c c' : Nat) (w : World) : Calls Tryd.prog 60 #[.slice a 0 c, .slice a' 0 c'] w fun e w' => e = .returned (.bool true) ∧ Below w.heap.size w w' := by
  go_enter Tryd.func60, Tryd.ntmps60
  go_wp2
  refine wp_loop_rounds 1 ?_
  rw [rounds_succ]
  go_wp2
  go_ret
  exact ⟨rfl, Below.refl _ _⟩
theorem markInt16S_zero (a : Option Addr) (c : Nat) (k : Int) (w : World) : Calls Tryd.prog 68 #[.slice a 0 c, .int .i64 k] w fun e w' => e = .returned (.int .i64 k) ∧ Below w.heap.size w w' := by
  go_enter Tryd.func68, Tryd.ntmps68
  go_wp2
  refine wp_loop_rounds 1 ?_
  rw [rounds_succ]
  go_wp2
  go_ret
  exact ⟨rfl, Below.refl _ _⟩
theorem heldInt16S_zero (a : Option Addr) (c : Nat) (k : Int) (w : World) : Calls Tryd.prog 76 #[.slice a 0 c, .int .i64 k] w fun e w' => e = .returned (.int .i64 k) ∧ Below w.heap.size w w' := by
  go_enter Tryd.func76, Tryd.ntmps76
  go_wp2
  refine wp_loop_rounds 1 ?_
  rw [rounds_succ]
  go_wp2
  go_ret
  exact ⟨rfl, Below.refl _ _⟩

set_option maxRecDepth 100000 in
set_option maxHeartbeats 1000000 in
/-- eqInt16S of two lists that hold the same. -/
theorem eqInt16S_list (b b' n c c' N N' : Nat) (F F' : Nat → Value) (ys : Nat → Int) (hF : ∀ j, j < n → F j = vInt16S ys j) (hF' : ∀ j, j < n → F' j = vInt16S ys j) (hN : n ≤ N) (hN' : n ≤ N') (hn : n ≤ 1048576) (w : World) (hA : At w b N F) (hA' : At w b' N' F') (hne : b ≠ b') :
    Calls Tryd.prog 60 #[.slice (some ⟨b, 0, none⟩) n c, .slice (some ⟨b', 0, none⟩) n c'] w fun e w' => e = .returned (.bool true) ∧ Below w.heap.size w w' := by
  have hM : Mem w [(b, N, F), (b', N', F')] w := ((Mem.nil w).old hA (fun i p h => by simp at h)).old hA' (fun i p h => by
    match i, h with
    | 0, h => simp at h; rw [← h]; exact hne
    | _ + 1, h => simp at h)
  have Hf := Lib.hid hF
  have Hf' := Lib.hid hF'
  clear hA hA' hF hF'
  go_enter Tryd.func60, Tryd.ntmps60
  go_wp2
  go_loopw [5] (fun i wr => ∃ k : Nat, k ≤ n ∧ i = .int .i64 k ∧ Mem w [(b, N, F), (b', N', F')] wr) (fun i _ => n - (intOf i).toNat)
  case atStart => exact ⟨0, by omega, rfl, hM⟩
  case round =>
    clear hM
    obtain ⟨k, hk, rfl, hM⟩ := hrel
    by_cases hlt : k < n
    · have l2 : (k : Int) < n := by omega
      have c1 : F k = .int .i16 (ys k) := Hf.out k hlt
      have c2 : F' k = .int .i16 (ys k) := Hf'.out k hlt
      have hb : (ys k != ys k) = false := by simp
      go_wp2
      ((try simp only [Act.put, List.setIfInBounds_toArray, List.set_cons_succ, List.set_cons_zero]); refine wp_region_mem (by kernel_rfl) (by kernel_rfl) hM ?_; clear hM; (repeat (first | go_big_quiet_skip | (go_big_quiet_want; first | (refine quiet_get1 _ _ rfl _ _ rfl 1 rfl cellInt16S (by omega) _ c2 ?_; (simp only [Act.put, List.setIfInBounds_toArray, List.set_cons_succ, List.set_cons_zero]); go_big_quiet_on) | (refine quiet_get1 _ _ rfl _ _ rfl 0 rfl cellInt16S (by omega) _ c1 ?_; (simp only [Act.put, List.setIfInBounds_toArray, List.set_cons_succ, List.set_cons_zero]); go_big_quiet_on) | (refine quiet_val ?_; apply Exists.intro; refine ⟨fun W => ?_, ?_⟩; (go_simp; (try simp only [l2, hb, if_true, Bool.false_eq_true, if_false]); rfl); (simp only [Act.put, List.setIfInBounds_toArray, List.set_cons_succ, List.set_cons_zero]); go_big_quiet_on)))); (with_reducible refine wpQuiet_nil ?_); intro W' hM)
      go_wp2
      go_roundw
      case rel => exact ⟨k + 1, by omega, by go_num, hM⟩
      case measure => simp [intOf]; omega
    · obtain rfl : k = n := by omega
      go_wp2
      go_ret
      exact ⟨rfl, hM.below⟩

/-- The mark j, as a cell. -/
def mkInt16 (j : Nat) : Value := .int .i16 (IntKind.i16.wrap (j : Int))
set_option maxRecDepth 100000 in
set_option maxHeartbeats 1000000 in
/-- markInt16S writes its marks into the list. -/
theorem markInt16S_list (b0 : Base) (K : Blocks) (b n c N k0 : Nat) (F : Nat → Value) (hN : n ≤ N) (hn : n ≤ 1048576) (hk0 : k0 ≤ 100000000) (hb : b0.B ≤ b) (w : World) (hM0 : Mem b0 ((b, N, F) :: K) w) :
    Calls Tryd.prog 68 #[.slice (some ⟨b, 0, none⟩) n c, .int .i64 k0] w fun e w' => e = .returned (.int .i64 ((k0 + n : Nat) : Int)) ∧ ∃ G, (∀ j, j < n → G j = mkInt16 (k0 + j)) ∧ Mem b0 ((b, N, G) :: K) w' := by
  have hM := hM0
  clear hM0
  go_enter Tryd.func68, Tryd.ntmps68
  go_wp2
  go_loopw [1, 5] (fun t i wr => ∃ k : Nat, k ≤ n ∧ t = .int .i64 ((k0 + k : Nat) : Int) ∧ i = .int .i64 k ∧ ∃ G, Hid (∀ j, j < k → G j = mkInt16 (k0 + j)) ∧ Mem b0 ((b, N, G) :: K) wr) (fun _ i _ => n - (intOf i).toNat)
  case atStart => exact ⟨0, by omega, by simp, rfl, F, Lib.hid (fun j hj => absurd hj (by omega)), hM⟩
  case round =>
    clear hM
    obtain ⟨k, hk, rfl, rfl, G, hG, hM⟩ := hrel
    by_cases hlt : k < n
    · have l2 : (k : Int) < n := by omega
      obtain ⟨mm, hm⟩ : ∃ m : Nat, m = k0 + k := ⟨_, rfl⟩
      rw [← hm]
      have n1 : IntKind.i64.wrap ((mm : Int) + 1) = (mm : Int) + 1 := IntWalk.i64_in _ (by omega)
      have n2 : IntKind.i64.wrap (mm : Int) = (mm : Int) := IntWalk.i64_in _ (by omega)
      have hl : (mm : Int) + 1 = ((k0 + (k + 1) : Nat) : Int) := by omega
      obtain ⟨xx, hxx⟩ : ∃ x, IntKind.i16.wrap (mm : Int) = x := ⟨_, rfl⟩
      have Hxx := Lib.hid hxx
      have Hl := Lib.hid hl
      have Hm := Lib.hid hm
      clear hm hl
      go_wp2_with (first | (refine wpList_set1 rfl _ _ _ rfl _ _ rfl _ rfl ?_ hM 0 rfl (by assumption) (cellTab _ rfl) (by omega) ?_; (first | rfl | exact h1 _); intro W' hM'; clear hM; have hM := hM'; clear hM'; simp [List.set, Act.eval] at hM))
      go_roundw
      case rel => exact ⟨k + 1, by omega, by first | exact congrArg (Value.int .i64) Hl.out | rfl, by go_num, _, Lib.hid (fun j hj => by
        simp only [upd]
        by_cases e0 : j = k
        · rw [if_pos e0, e0, ← Hm.out]; exact congrArg (Value.int .i16) Hxx.out.symm
        · rw [if_neg e0]; exact hG.out j (by omega)), hM⟩
      case measure => simp [intOf]; omega
    · obtain rfl : k = n := by omega
      go_wp2
      go_ret
      exact ⟨rfl, G, hG.out, hM⟩

set_option maxRecDepth 100000 in
set_option maxHeartbeats 1000000 in
/-- heldInt16S finds the marks. -/
theorem heldInt16S_list (b n c N k0 : Nat) (G : Nat → Value) (hN : n ≤ N) (hn : n ≤ 1048576) (hk0 : k0 ≤ 100000000) (hG : ∀ j, j < n → G j = mkInt16 (k0 + j)) (w : World) (hA : At w b N G) :
    Calls Tryd.prog 76 #[.slice (some ⟨b, 0, none⟩) n c, .int .i64 k0] w fun e w' => e = .returned (.int .i64 ((k0 + n : Nat) : Int)) ∧ Below w.heap.size w w' := by
  have hM : Mem w [(b, N, G)] w := (Mem.nil w).old hA (fun i p h => by simp at h)
  have Hg := Lib.hid hG
  clear hA hG
  go_enter Tryd.func76, Tryd.ntmps76
  go_wp2
  go_loopw [1, 5] (fun t i wr => ∃ k : Nat, k ≤ n ∧ t = .int .i64 ((k0 + k : Nat) : Int) ∧ i = .int .i64 k ∧ Mem w [(b, N, G)] wr) (fun _ i _ => n - (intOf i).toNat)
  case atStart => exact ⟨0, by omega, by simp, rfl, hM⟩
  case round =>
    clear hM
    obtain ⟨k, hk, rfl, rfl, hM⟩ := hrel
    by_cases hlt : k < n
    · have l2 : (k : Int) < n := by omega
      obtain ⟨mm, hm⟩ : ∃ m : Nat, m = k0 + k := ⟨_, rfl⟩
      obtain ⟨xx, hxx⟩ : ∃ x, IntKind.i16.wrap (mm : Int) = x := ⟨_, rfl⟩
      have g0 : G k = .int .i16 xx := by rw [Hg.out k hlt, ← hxx, hm]; rfl
      have nx : (xx != xx) = false := by simp
      rw [← hm]
      have n1 : IntKind.i64.wrap ((mm : Int) + 1) = (mm : Int) + 1 := IntWalk.i64_in _ (by omega)
      have n2 : IntKind.i64.wrap (mm : Int) = (mm : Int) := IntWalk.i64_in _ (by omega)
      have hl : (mm : Int) + 1 = ((k0 + (k + 1) : Nat) : Int) := by omega
      have Hl := Lib.hid hl
      clear hm hl
      go_wp2_with (first | (refine wpList_get1 rfl _ _ rfl _ _ rfl hM 0 rfl (cellTab _ rfl) (by omega) _ g0 ?_))
      go_roundw
      case rel => exact ⟨k + 1, by omega, by first | exact congrArg (Value.int .i64) Hl.out | rfl, by go_num, hM⟩
      case measure => simp [intOf]; omega
    · obtain rfl : k = n := by omega
      go_wp2
      go_ret
      exact ⟨rfl, hM.below⟩
end Go.Proofs.YthodkbmenndnoaaDoor

/-
  laws.eqUint16S, markUint16S, heldUint16S over lists that hold room behind their end.
-/
namespace Go.Proofs.YthodkbmenndnoaaDoor
open Go Go.RowKit Go.BigFrame Go.ChangeShapes Go.WideShapes Go.Deep

theorem eqUint16S_zero (a a' : Option Addr) (c c' : Nat) (w : World) : Calls Tryd.prog 61 #[.slice a 0 c, .slice a' 0 c'] w fun e w' => e = .returned (.bool true) ∧ Below w.heap.size w w' := by
  go_enter Tryd.func61, Tryd.ntmps61
  go_wp2
  refine wp_loop_rounds 1 ?_
  rw [rounds_succ]
  go_wp2
  go_ret
  exact ⟨rfl, Below.refl _ _⟩
theorem markUint16S_zero (a : Option Addr) (c : Nat) (k : Int) (w : World) : Calls Tryd.prog 69 #[.slice a 0 c, .int .i64 k] w fun e w' => e = .returned (.int .i64 k) ∧ Below w.heap.size w w' := by
  go_enter Tryd.func69, Tryd.ntmps69
  go_wp2
  refine wp_loop_rounds 1 ?_
  rw [rounds_succ]
  go_wp2
  go_ret
  exact ⟨rfl, Below.refl _ _⟩
theorem heldUint16S_zero (a : Option Addr) (c : Nat) (k : Int) (w : World) : Calls Tryd.prog 77 #[.slice a 0 c, .int .i64 k] w fun e w' => e = .returned (.int .i64 k) ∧ Below w.heap.size w w' := by
  go_enter Tryd.func77, Tryd.ntmps77
  go_wp2
  refine wp_loop_rounds 1 ?_
  rw [rounds_succ]
  go_wp2
  go_ret
  exact ⟨rfl, Below.refl _ _⟩

set_option maxRecDepth 100000 in
set_option maxHeartbeats 1000000 in
/-- eqUint16S of two lists that hold the same. -/
theorem eqUint16S_list (b b' n c c' N N' : Nat) (F F' : Nat → Value) (ys : Nat → Int) (hF : ∀ j, j < n → F j = vUint16S ys j) (hF' : ∀ j, j < n → F' j = vUint16S ys j) (hN : n ≤ N) (hN' : n ≤ N') (hn : n ≤ 1048576) (w : World) (hA : At w b N F) (hA' : At w b' N' F') (hne : b ≠ b') :
    Calls Tryd.prog 61 #[.slice (some ⟨b, 0, none⟩) n c, .slice (some ⟨b', 0, none⟩) n c'] w fun e w' => e = .returned (.bool true) ∧ Below w.heap.size w w' := by
  have hM : Mem w [(b, N, F), (b', N', F')] w := ((Mem.nil w).old hA (fun i p h => by simp at h)).old hA' (fun i p h => by
    match i, h with
    | 0, h => simp at h; rw [← h]; exact hne
    | _ + 1, h => simp at h)
  have Hf := Lib.hid hF
  have Hf' := Lib.hid hF'
  clear hA hA' hF hF'
  go_enter Tryd.func61, Tryd.ntmps61
  go_wp2
  go_loopw [5] (fun i wr => ∃ k : Nat, k ≤ n ∧ i = .int .i64 k ∧ Mem w [(b, N, F), (b', N', F')] wr) (fun i _ => n - (intOf i).toNat)
  case atStart => exact ⟨0, by omega, rfl, hM⟩
  case round =>
    clear hM
    obtain ⟨k, hk, rfl, hM⟩ := hrel
    by_cases hlt : k < n
    · have l2 : (k : Int) < n := by omega
      have c1 : F k = .int .u16 (ys k) := Hf.out k hlt
      have c2 : F' k = .int .u16 (ys k) := Hf'.out k hlt
      have hb : (ys k != ys k) = false := by simp
      go_wp2
      ((try simp only [Act.put, List.setIfInBounds_toArray, List.set_cons_succ, List.set_cons_zero]); refine wp_region_mem (by kernel_rfl) (by kernel_rfl) hM ?_; clear hM; (repeat (first | go_big_quiet_skip | (go_big_quiet_want; first | (refine quiet_get1 _ _ rfl _ _ rfl 1 rfl cellUint16S (by omega) _ c2 ?_; (simp only [Act.put, List.setIfInBounds_toArray, List.set_cons_succ, List.set_cons_zero]); go_big_quiet_on) | (refine quiet_get1 _ _ rfl _ _ rfl 0 rfl cellUint16S (by omega) _ c1 ?_; (simp only [Act.put, List.setIfInBounds_toArray, List.set_cons_succ, List.set_cons_zero]); go_big_quiet_on) | (refine quiet_val ?_; apply Exists.intro; refine ⟨fun W => ?_, ?_⟩; (go_simp; (try simp only [l2, hb, if_true, Bool.false_eq_true, if_false]); rfl); (simp only [Act.put, List.setIfInBounds_toArray, List.set_cons_succ, List.set_cons_zero]); go_big_quiet_on)))); (with_reducible refine wpQuiet_nil ?_); intro W' hM)
      go_wp2
      go_roundw
      case rel => exact ⟨k + 1, by omega, by go_num, hM⟩
      case measure => simp [intOf]; omega
    · obtain rfl : k = n := by omega
      go_wp2
      go_ret
      exact ⟨rfl, hM.below⟩

/-- The mark j, as a cell. -/
def mkUint16 (j : Nat) : Value := .int .u16 (IntKind.u16.wrap (j : Int))
set_option maxRecDepth 100000 in
set_option maxHeartbeats 1000000 in
/-- markUint16S writes its marks into the list. -/
theorem markUint16S_list (b0 : Base) (K : Blocks) (b n c N k0 : Nat) (F : Nat → Value) (hN : n ≤ N) (hn : n ≤ 1048576) (hk0 : k0 ≤ 100000000) (hb : b0.B ≤ b) (w : World) (hM0 : Mem b0 ((b, N, F) :: K) w) :
    Calls Tryd.prog 69 #[.slice (some ⟨b, 0, none⟩) n c, .int .i64 k0] w fun e w' => e = .returned (.int .i64 ((k0 + n : Nat) : Int)) ∧ ∃ G, (∀ j, j < n → G j = mkUint16 (k0 + j)) ∧ Mem b0 ((b, N, G) :: K) w' := by
  have hM := hM0
  clear hM0
  go_enter Tryd.func69, Tryd.ntmps69
  go_wp2
  go_loopw [1, 5] (fun t i wr => ∃ k : Nat, k ≤ n ∧ t = .int .i64 ((k0 + k : Nat) : Int) ∧ i = .int .i64 k ∧ ∃ G, Hid (∀ j, j < k → G j = mkUint16 (k0 + j)) ∧ Mem b0 ((b, N, G) :: K) wr) (fun _ i _ => n - (intOf i).toNat)
  case atStart => exact ⟨0, by omega, by simp, rfl, F, Lib.hid (fun j hj => absurd hj (by omega)), hM⟩
  case round =>
    clear hM
    obtain ⟨k, hk, rfl, rfl, G, hG, hM⟩ := hrel
    by_cases hlt : k < n
    · have l2 : (k : Int) < n := by omega
      obtain ⟨mm, hm⟩ : ∃ m : Nat, m = k0 + k := ⟨_, rfl⟩
      rw [← hm]
      have n1 : IntKind.i64.wrap ((mm : Int) + 1) = (mm : Int) + 1 := IntWalk.i64_in _ (by omega)
      have n2 : IntKind.i64.wrap (mm : Int) = (mm : Int) := IntWalk.i64_in _ (by omega)
      have hl : (mm : Int) + 1 = ((k0 + (k + 1) : Nat) : Int) := by omega
      obtain ⟨xx, hxx⟩ : ∃ x, IntKind.u16.wrap (mm : Int) = x := ⟨_, rfl⟩
      have Hxx := Lib.hid hxx
      have Hl := Lib.hid hl
      have Hm := Lib.hid hm
      clear hm hl
      go_wp2_with (first | (refine wpList_set1 rfl _ _ _ rfl _ _ rfl _ rfl ?_ hM 0 rfl (by assumption) (cellTab _ rfl) (by omega) ?_; (first | rfl | exact h1 _); intro W' hM'; clear hM; have hM := hM'; clear hM'; simp [List.set, Act.eval] at hM))
      go_roundw
      case rel => exact ⟨k + 1, by omega, by first | exact congrArg (Value.int .i64) Hl.out | rfl, by go_num, _, Lib.hid (fun j hj => by
        simp only [upd]
        by_cases e0 : j = k
        · rw [if_pos e0, e0, ← Hm.out]; exact congrArg (Value.int .u16) Hxx.out.symm
        · rw [if_neg e0]; exact hG.out j (by omega)), hM⟩
      case measure => simp [intOf]; omega
    · obtain rfl : k = n := by omega
      go_wp2
      go_ret
      exact ⟨rfl, G, hG.out, hM⟩

set_option maxRecDepth 100000 in
set_option maxHeartbeats 1000000 in
/-- heldUint16S finds the marks. -/
theorem heldUint16S_list (b n c N k0 : Nat) (G : Nat → Value) (hN : n ≤ N) (hn : n ≤ 1048576) (hk0 : k0 ≤ 100000000) (hG : ∀ j, j < n → G j = mkUint16 (k0 + j)) (w : World) (hA : At w b N G) :
    Calls Tryd.prog 77 #[.slice (some ⟨b, 0, none⟩) n c, .int .i64 k0] w fun e w' => e = .returned (.int .i64 ((k0 + n : Nat) : Int)) ∧ Below w.heap.size w w' := by
  have hM : Mem w [(b, N, G)] w := (Mem.nil w).old hA (fun i p h => by simp at h)
  have Hg := Lib.hid hG
  clear hA hG
  go_enter Tryd.func77, Tryd.ntmps77
  go_wp2
  go_loopw [1, 5] (fun t i wr => ∃ k : Nat, k ≤ n ∧ t = .int .i64 ((k0 + k : Nat) : Int) ∧ i = .int .i64 k ∧ Mem w [(b, N, G)] wr) (fun _ i _ => n - (intOf i).toNat)
  case atStart => exact ⟨0, by omega, by simp, rfl, hM⟩
  case round =>
    clear hM
    obtain ⟨k, hk, rfl, rfl, hM⟩ := hrel
    by_cases hlt : k < n
    · have l2 : (k : Int) < n := by omega
      obtain ⟨mm, hm⟩ : ∃ m : Nat, m = k0 + k := ⟨_, rfl⟩
      obtain ⟨xx, hxx⟩ : ∃ x, IntKind.u16.wrap (mm : Int) = x := ⟨_, rfl⟩
      have g0 : G k = .int .u16 xx := by rw [Hg.out k hlt, ← hxx, hm]; rfl
      have nx : (xx != xx) = false := by simp
      rw [← hm]
      have n1 : IntKind.i64.wrap ((mm : Int) + 1) = (mm : Int) + 1 := IntWalk.i64_in _ (by omega)
      have n2 : IntKind.i64.wrap (mm : Int) = (mm : Int) := IntWalk.i64_in _ (by omega)
      have hl : (mm : Int) + 1 = ((k0 + (k + 1) : Nat) : Int) := by omega
      have Hl := Lib.hid hl
      clear hm hl
      go_wp2_with (first | (refine wpList_get1 rfl _ _ rfl _ _ rfl hM 0 rfl (cellTab _ rfl) (by omega) _ g0 ?_))
      go_roundw
      case rel => exact ⟨k + 1, by omega, by first | exact congrArg (Value.int .i64) Hl.out | rfl, by go_num, hM⟩
      case measure => simp [intOf]; omega
    · obtain rfl : k = n := by omega
      go_wp2
      go_ret
      exact ⟨rfl, hM.below⟩
end Go.Proofs.YthodkbmenndnoaaDoor

/-
  laws.markHerd, heldHerd over herds whose lists hold room.
-/
namespace Go.Proofs.YthodkbmenndnoaaDoor
open Go Go.RowKit Go.BigFrame

set_option maxRecDepth 100000 in
set_option maxHeartbeats 1000000 in
theorem markHerd_any (b0 : Base) (K : Blocks) (e1 e2 e3 n1 n2 n3 c1 c2 c3 N1 N2 N3 k0 : Nat) (F1 F2 F3 hv : Nat → Value) (a1 : hv 0 = .slice (some ⟨e1, 0, none⟩) n1 c1) (a2 : hv 1 = .slice (some ⟨e2, 0, none⟩) n2 c2) (a3 : hv 2 = .slice (some ⟨e3, 0, none⟩) n3 c3)
    (hN1 : n1 ≤ N1) (hN2 : n2 ≤ N2) (hN3 : n3 ≤ N3) (hn1 : n1 ≤ 1048576) (hn2 : n2 ≤ 1048576) (hn3 : n3 ≤ 1048576) (hk0 : k0 ≤ 50000000) (h1 : b0.B ≤ e1) (h2 : b0.B ≤ e2) (h3 : b0.B ≤ e3) (w : World) (hM0 : Mem b0 ((e1, N1, F1) :: (e2, N2, F2) :: (e3, N3, F3) :: K) w) :
    Calls Tryd.prog 23 #[.agg (arr 3 hv), .int .i64 k0] w fun e w' => e = .returned (.int .i64 ((k0 + n1 + n2 + n3 : Nat) : Int)) ∧ ∃ G1 G2 G3, (∀ j, j < n1 → G1 j = mkString (k0 + j)) ∧ (∀ j, j < n2 → G2 j = mkInt16 (k0 + n1 + j)) ∧ (∀ j, j < n3 → G3 j = mkUint16 (k0 + n1 + n2 + j)) ∧ Mem b0 ((e1, N1, G1) :: (e2, N2, G2) :: (e3, N3, G3) :: K) w' := by
  have hM := hM0
  clear hM0
  obtain ⟨k1, hk1⟩ : ∃ q : Nat, q = k0 + n1 := ⟨_, rfl⟩
  obtain ⟨k2, hk2⟩ : ∃ q : Nat, q = k1 + n2 := ⟨_, rfl⟩
  obtain ⟨k3, hk3⟩ : ∃ q : Nat, q = k2 + n3 := ⟨_, rfl⟩
  rw [← hk1, ← hk2, ← hk3]
  have b1 : k1 ≤ 100000000 := by omega
  have b2 : k2 ≤ 100000000 := by omega
  have b00 : k0 ≤ 100000000 := by omega
  have HK1 := Lib.hid hk1
  have HK2 := Lib.hid hk2
  have HK3 := Lib.hid hk3
  clear hk1 hk2 hk3
  have tk_x1 : True := trivial; have tk_m1 : True := trivial; have tk_m2 : True := trivial; have tk_m3 : True := trivial
  go_enter Tryd.func23, Tryd.ntmps23
  go_wp2_with (first | (have _t := tk_x1; refine wpList_box rfl _ _ rfl _ _ rfl hM ?_; intro x1 W' hx1 hM'; clear hM tk_x1; have hM := hM'; clear hM') | (refine wpList_get1 rfl _ _ rfl _ _ rfl hM 0 rfl (cellTab _ rfl) (by omega) _ a1 ?_) | (refine wpList_get1 rfl _ _ rfl _ _ rfl hM 1 rfl (cellTab _ rfl) (by omega) _ a2 ?_) | (refine wpList_get1 rfl _ _ rfl _ _ rfl hM 2 rfl (cellTab _ rfl) (by omega) _ a3 ?_) | (have _t := tk_m1; go_at_call 67; have hMf := hM.toFront 1 rfl; simp only [List.eraseIdx_cons_succ, List.eraseIdx_cons_zero] at hMf; refine (markStringS_list b0 _ e1 n1 c1 N1 k0 F1 hN1 hn1 b00 h1 _ hMf).mono ?_; clear hMf; rintro e W' ⟨rfl, G1, hG1, hM'⟩; rw [← HK1.out]; have HG1 := Lib.hid hG1; clear hM hG1 tk_m1; have hM := hM'; clear hM') | (have _t := tk_m2; go_at_call 68; have hMf := hM.toFront 2 rfl; simp only [List.eraseIdx_cons_succ, List.eraseIdx_cons_zero] at hMf; refine (markInt16S_list b0 _ e2 n2 c2 N2 k1 F2 hN2 hn2 b1 h2 _ hMf).mono ?_; clear hMf; rintro e W' ⟨rfl, G2, hG2, hM'⟩; rw [← HK2.out]; have HG2 := Lib.hid hG2; clear hM hG2 tk_m2; have hM := hM'; clear hM') | (have _t := tk_m3; go_at_call 69; have hMf := hM.toFront 3 rfl; simp only [List.eraseIdx_cons_succ, List.eraseIdx_cons_zero] at hMf; refine (markUint16S_list b0 _ e3 n3 c3 N3 k2 F3 hN3 hn3 b2 h3 _ hMf).mono ?_; clear hMf; rintro e W' ⟨rfl, G3, hG3, hM'⟩; rw [← HK3.out]; have HG3 := Lib.hid hG3; clear hM hG3 tk_m3; have hM := hM'; clear hM'))
  have hA := hM.toFront 3 rfl
  simp only [List.eraseIdx_cons_succ, List.eraseIdx_cons_zero] at hA
  have hB := hA.drop.toFront 1 rfl
  simp only [List.eraseIdx_cons_succ, List.eraseIdx_cons_zero] at hB
  have hC := hB.toFront 2 rfl
  simp only [List.eraseIdx_cons_succ, List.eraseIdx_cons_zero] at hC
  go_ret
  exact ⟨rfl, G1, G2, G3, HG1.out, HG2.out, HG3.out, hC⟩

set_option maxRecDepth 100000 in
set_option maxHeartbeats 1000000 in
theorem heldHerd_any (e1 e2 e3 n1 n2 n3 c1 c2 c3 N1 N2 N3 k0 : Nat) (G1 G2 G3 hv : Nat → Value) (a1 : hv 0 = .slice (some ⟨e1, 0, none⟩) n1 c1) (a2 : hv 1 = .slice (some ⟨e2, 0, none⟩) n2 c2) (a3 : hv 2 = .slice (some ⟨e3, 0, none⟩) n3 c3)
    (hN1 : n1 ≤ N1) (hN2 : n2 ≤ N2) (hN3 : n3 ≤ N3) (hn1 : n1 ≤ 1048576) (hn2 : n2 ≤ 1048576) (hn3 : n3 ≤ 1048576) (hk0 : k0 ≤ 50000000)
    (g1 : ∀ j, j < n1 → G1 j = mkString (k0 + j)) (g2 : ∀ j, j < n2 → G2 j = mkInt16 (k0 + n1 + j)) (g3 : ∀ j, j < n3 → G3 j = mkUint16 (k0 + n1 + n2 + j)) (w : World) (A1 : At w e1 N1 G1) (A2 : At w e2 N2 G2) (A3 : At w e3 N3 G3) :
    Calls Tryd.prog 30 #[.agg (arr 3 hv), .int .i64 k0] w fun e w' => e = .returned (.int .i64 ((k0 + n1 + n2 + n3 : Nat) : Int)) ∧ Below w.heap.size w w' := by
  have hM := Mem.nil w
  obtain ⟨k1, hk1⟩ : ∃ q : Nat, q = k0 + n1 := ⟨_, rfl⟩
  obtain ⟨k2, hk2⟩ : ∃ q : Nat, q = k1 + n2 := ⟨_, rfl⟩
  obtain ⟨k3, hk3⟩ : ∃ q : Nat, q = k2 + n3 := ⟨_, rfl⟩
  rw [← hk1] at g2 g3
  rw [← hk2] at g3
  rw [← hk1, ← hk2, ← hk3]
  have b1 : k1 ≤ 100000000 := by omega
  have b2 : k2 ≤ 100000000 := by omega
  have b00 : k0 ≤ 100000000 := by omega
  have hd1 : decide ((k1 : Int) < 0) = false := decide_eq_false (by omega)
  have hn1' : ¬ (k1 : Int) < 0 := by omega
  have hd2 : decide ((k2 : Int) < 0) = false := decide_eq_false (by omega)
  have hn2' : ¬ (k2 : Int) < 0 := by omega
  have hd3 : decide ((k3 : Int) < 0) = false := decide_eq_false (by omega)
  have hn3' : ¬ (k3 : Int) < 0 := by omega
  have HK1 := Lib.hid hk1
  have HK2 := Lib.hid hk2
  have HK3 := Lib.hid hk3
  have HG1 := Lib.hid g1
  have HG2 := Lib.hid g2
  have HG3 := Lib.hid g3
  have HA1 := Lib.hid A1
  have HA2 := Lib.hid A2
  have HA3 := Lib.hid A3
  clear hk1 hk2 hk3 g1 g2 g3 A1 A2 A3
  have tk_x1 : True := trivial; have tk_m1 : True := trivial; have tk_m2 : True := trivial; have tk_m3 : True := trivial
  go_enter Tryd.func30, Tryd.ntmps30
  go_wp2_with (first | (have _t := tk_x1; refine wpList_box rfl _ _ rfl _ _ rfl hM ?_; intro x1 W' hx1 hM'; clear hM tk_x1; have hM := hM'; clear hM') | (refine wpList_get1 rfl _ _ rfl _ _ rfl hM 0 rfl (cellTab _ rfl) (by omega) _ a1 ?_) | (refine wpList_get1 rfl _ _ rfl _ _ rfl hM 0 rfl (cellTab _ rfl) (by omega) _ a2 ?_) | (refine wpList_get1 rfl _ _ rfl _ _ rfl hM 0 rfl (cellTab _ rfl) (by omega) _ a3 ?_) | (have _t := tk_m1; go_at_call 75; refine (heldStringS_list e1 n1 c1 N1 k0 G1 hN1 hn1 b00 HG1.out _ (HA1.out.below hM.below HA1.out.lt)).mono ?_; rintro e W' ⟨rfl, hb'⟩; rw [← HK1.out]; have hM' := hM.call hb'; clear hM hb' tk_m1; have hM := hM'; clear hM') | (have _t := tk_m2; go_at_call 76; refine (heldInt16S_list e2 n2 c2 N2 k1 G2 hN2 hn2 b1 HG2.out _ (HA2.out.below hM.below HA2.out.lt)).mono ?_; rintro e W' ⟨rfl, hb'⟩; rw [← HK2.out]; have hM' := hM.call hb'; clear hM hb' tk_m2; have hM := hM'; clear hM') | (have _t := tk_m3; go_at_call 77; refine (heldUint16S_list e3 n3 c3 N3 k2 G3 hN3 hn3 b2 HG3.out _ (HA3.out.below hM.below HA3.out.lt)).mono ?_; rintro e W' ⟨rfl, hb'⟩; rw [← HK3.out]; have hM' := hM.call hb'; clear hM hb' tk_m3; have hM := hM'; clear hM'))
  go_ret
  exact ⟨rfl, hM.below⟩
end Go.Proofs.YthodkbmenndnoaaDoor

