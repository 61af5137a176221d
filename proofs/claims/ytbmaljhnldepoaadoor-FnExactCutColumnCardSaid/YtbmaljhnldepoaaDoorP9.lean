/-
  Several texts in one: Tilt, CutCol1, Fewest, Lit1, Join, IsJoin, UpTo, CheckGrass, ErrO, Results.
-/
import Derived.Test.YtbmaljhnldepoaaDoorP6
import Derived.Test.YtbmaljhnldepoaaDoorP7
import Derived.Test.YtbmaljhnldepoaaDoorP8
import Derived.Test.YtbmaljhnldepoaaDoorP5
import Derived.Laws.MakeOwn
import Derived.Test.YtbmaljhnldepoaaDoorP4
import Derived.Test.YtbmaljhnldepoaaDoorP2
import Derived.Test.YtbmaljhnldepoaaDoorP1
import Derived.Laws.ResultCell
/-
  (impl.Pasture).tilt by contract.
-/
namespace Go.Proofs.YtbmaljhnldepoaaDoor
open Go Go.RowKit Go.BigFrame

theorem thatF_fit {p : Nat → Nat → Bool} {W H : Nat} (hW : W ≤ 10) (hH : H ≤ 10) : ∀ s ∈ thatF p (upto W (W * H)), s.1 < 10 ∧ s.2 < 10 := fun s hs => by
  unfold thatF upto at hs
  obtain ⟨h1, -⟩ := List.mem_filter.1 hs
  obtain ⟨k, hk, rfl⟩ := List.mem_map.1 h1
  have hk := List.mem_range.1 hk
  unfold cellAt
  have hp : 0 < W := Nat.pos_of_ne_zero fun e => by subst e; omega
  have h2 : k % W < W := Nat.mod_lt _ hp
  have h3 : k / W < H := Nat.div_lt_of_lt_mul hk
  exact ⟨by show k % W < 10; omega, by show k / W < 10; omega⟩

set_option maxRecDepth 100000 in
set_option maxHeartbeats 1000000 in
theorem tilt_any (g : Nat → Int) (hg : Fits g) (ho : okB g = true) (c : Nat) (hc : c ≤ (g 0).toNat) (a b : Int) (ba : 0 ≤ a ∧ a ≤ 1000000) (bb : 0 ≤ b ∧ b ≤ 1000000) (w : World) :
    Calls Tryd.prog 104 #[.agg (arr 122 (pas g)), .int .i64 (c : Int), .int .i64 a, .int .i64 b] w fun e w' => e = .returned (.int .i64 (cutF g a b c)) ∧ Below w.heap.size w w' := by
  have hM := Mem.nil w
  have ho' := ho
  unfold okB at ho'
  rw [Bool.and_eq_true, Bool.and_eq_true] at ho'
  have i0 := inB_true ho'.1.1
  have i1 := inB_true ho'.1.2
  have hgr := fun k hk => (ok_grass ho k hk).1
  clear ho'
  obtain ⟨W, hW⟩ : ∃ W, (g 0).toNat = W := ⟨_, rfl⟩
  obtain ⟨V, hV⟩ : ∃ V, (g 1).toNat = V := ⟨_, rfl⟩
  have hg0 : g 0 = (W : Int) := by omega
  have hg1 : g 1 = (V : Int) := by omega
  have hW10 : W ≤ 10 := by omega
  have hV10 : V ≤ 10 := by omega
  rw [hW] at hc
  have hT := sumN_bounds (n := 100) (f := fun k => g (2 + k)) (m := 1000) (by omega) (fun k hk => hgr k hk)
  have HS := fun bp W hA => sumGrass_cells g hg ho bp W hA
  have hwb := westN_bounds (g := g) hgr (H := V) (c := c) (by omega) (by omega)
  have hfx : cutF g a b c = absN (westN g V c * b - ((sumN 100 fun k => g (2 + k)) - westN g V c) * a) := by unfold cutF; rw [hV, ownN_abs]
  generalize (sumN 100 fun k => g (2 + k)) = T at hT hfx HS
  obtain ⟨l, hl⟩ : ∃ l, thatF (westF c) (upto W (W * V)) = l := ⟨_, rfl⟩
  have hln : l.length ≤ 100 := by
    have h1 := thatF_len (p := westF c) (l := upto W (W * V))
    rw [hl] at h1
    have h2 : (upto W (W * V)).length = W * V := by simp [upto]
    have h3 := Nat.mul_le_mul hW10 hV10
    omega
  have hsum : sumL g l = westN g V c := by rw [← hl, Nat.mul_comm W V]; exact sumL_west g hc V
  have hfit : ∀ s ∈ l, s.1 < 10 ∧ s.2 < 10 := by rw [← hl]; exact thatF_fit hW10 hV10
  have HC := fun b2 X hA => cellsThat_any g hg W V hW10 hV10 hg0 hg1 (lb := #[.pointer (some ⟨b2, 0, none⟩)]) (enters_of Tryd.func140 (by kernel_rfl) rfl) (westF c) X (tilt1_cl c b2 W V hW10 hV10 X hA)
  rw [hl] at HC
  generalize hx : westN g V c = x at *
  have m1 := mul_bd hwb bb
  have m2 := mul_bd2 (x := T - x) (b := a) (by omega) ba
  have w2 : IntKind.i64.wrap (T - x) = T - x := IntWalk.i64_in _ (by omega)
  have w1 : IntKind.i64.wrap (x * b) = x * b := IntWalk.i64_in _ (by omega)
  have w3 : IntKind.i64.wrap ((T - x) * a) = (T - x) * a := IntWalk.i64_in _ (by omega)
  obtain ⟨y, hy⟩ : ∃ y, x * b - (T - x) * a = y := ⟨_, rfl⟩
  have w4 : IntKind.i64.wrap (x * b - (T - x) * a) = y := by rw [hy]; exact IntWalk.i64_in _ (by omega)
  have w5 : IntKind.i64.wrap ((T - x) * a - x * b) = -y := by rw [show (T - x) * a - x * b = -y by omega]; exact IntWalk.i64_in _ (by omega)
  rw [hy] at hfx
  have HS' := Lib.hid HS
  have HC' := Lib.hid HC
  have Hfx := Lib.hid hfx
  have Hgr := Lib.hid hgr
  have Hsum := Lib.hid hsum
  have Hfit := Lib.hid (sL_cells hfit)
  clear HS HC hfx hgr hsum hfit hl hx m1 m2 hy hT hwb i0 i1 hW hV hg0 hg1
  have tk_b1 : True := trivial; have tk_b2 : True := trivial; have tk_q1 : True := trivial
  go_enter Tryd.func104, Tryd.ntmps104
  go_wp2_with (first | (have _t := tk_b1; refine wpList_box rfl _ _ rfl _ _ rfl hM ?_; intro b1 W' hb1 hM'; clear hM tk_b1; have hM := hM'; clear hM') | (have _t := tk_b2; refine wpList_box1 rfl _ _ rfl _ rfl rfl hM ?_; intro b2 W' hb2 hM'; clear hM tk_b2; have hM := hM'; clear hM'))
  have hM' := hM.re 0 rfl (fun _ => .int .i64 (c : Int)) (fun k hk => by
    obtain rfl : k = 0 := by omega
    rfl)
  simp only [List.set_cons_zero] at hM'
  clear hM
  have hM := hM'
  clear hM'
  ((try simp only [Act.put, List.setIfInBounds_toArray, List.set_cons_succ, List.set_cons_zero]); refine region_mix (n := 3) (by kernel_rfl) (by kernel_rfl) hM ?_; clear hM; simp only [List.take_succ_cons, List.take_zero, List.drop_succ_cons, List.drop_zero]; (repeat (refine wpB_plain rfl ?_; first | (refine b_get _ _ rfl _ _ rfl 1 rfl (rowTab _ _ rfl) (by omega) ?_; (simp only [Act.put, List.setIfInBounds_toArray, List.set_cons_succ, List.set_cons_zero])) | (refine b_val ?_; apply Exists.intro; refine ⟨fun W => ?_, ?_⟩; (go_simp; rfl); (simp only [Act.put, List.setIfInBounds_toArray, List.set_cons_succ, List.set_cons_zero])))); (with_reducible refine wpB_nil ?_))
  refine thr_call_more (vbY l.length) bkY (goodY l.length (sps (sL l))) rfl ?_
  apply Exists.intro; apply Exists.intro; refine ⟨fun W => ?_, fun W hM => ?_, ?_⟩
  · (go_simp; exact ⟨rfl, rfl⟩)
  · refine (HC'.out b2 W (hM.ats 0 _ _ _ rfl)).mono ?_
    rintro e W' ⟨v, rfl, hL⟩
    obtain ⟨y, rfl, h2, h3⟩ := lst_more hM hL
    exact ⟨y, rfl, h2, h3⟩
  rintro (_ | ⟨bl, cl, F⟩) hy
  · have h0 : l = [] := List.eq_nil_of_length_eq_zero hy
    have hx0 : Hid (x = 0) := Lib.hid (by rw [← Hsum.out, h0]; rfl)
    rw [show bkY none ++ ([] : Blocks) = [] from rfl]
    simp only [vbY, Act.put, List.setIfInBounds_toArray, List.set_cons_succ, List.set_cons_zero]
    (refine thr_call_new rfl (n := 1) (f := fun _ => .slice none 0 0) (fun b => .func (.func 129) #[] #[.pointer (some ⟨b, 0, none⟩)]) ?_; apply Exists.intro; apply Exists.intro; refine ⟨fun W => ?_, fun W hM => ?_, ?_⟩; (go_simp; exact ⟨rfl, rfl⟩); (exact values_nil_any W); (intro bh hbh); (simp only [Act.put, List.setIfInBounds_toArray, List.set_cons_succ, List.set_cons_zero]))
    (refine thr_call rfl ?_; apply Exists.intro; apply Exists.intro; apply Exists.intro; refine ⟨fun W => ?_, fun W hM => ?_, ?_⟩; (go_simp; exact ⟨rfl, rfl⟩); (exact sumGrass_nil g hg Hgr.out bh W (hM.ats 0 _ _ _ rfl)); (simp only [Act.put, List.setIfInBounds_toArray, List.set_cons_succ, List.set_cons_zero]))
    (refine thr_val rfl ?_; apply Exists.intro; refine ⟨fun W => ?_, ?_⟩; (go_simp; rfl); (simp only [Act.put, List.setIfInBounds_toArray, List.set_cons_succ, List.set_cons_zero]))
    (refine thr_nil ?_; intro W' hM; simp only [List.cons_append, List.nil_append] at hM)
    rw [← hx0.out]
    go_wp2
    ((try simp only [Act.put, List.setIfInBounds_toArray, List.set_cons_succ, List.set_cons_zero]); refine region_reads [0, 1, 4] #[true, true, false, false, true, false, false] 4 (by kernel_rfl) (by kernel_rfl) (by kernel_rfl) hM ?_; clear hM; (repeat (refine qs_plain rfl rfl ?_; first | (refine b_get _ _ rfl _ _ rfl 2 rfl (rowTab _ _ rfl) (by omega) ?_; (simp only [Act.put, List.setIfInBounds_toArray, List.set_cons_succ, List.set_cons_zero])) | (refine b_val ?_; apply Exists.intro; refine ⟨fun W => ?_, ?_⟩; (go_simp; (try simp only [w2, if_true]); rfl); (simp only [Act.put, List.setIfInBounds_toArray, List.set_cons_succ, List.set_cons_zero])))); (with_reducible refine qs_nil ?_))
    (refine mix_one (i := 2) (by kernel_rfl) rfl (by kernel_rfl) rfl ?_)
    (refine step_call_new (n := 122) (f := pas g) (fun b => .func (.func 148) #[] #[.pointer (some ⟨b, 0, none⟩)]) ?_; apply Exists.intro; apply Exists.intro; refine ⟨fun W => ?_, fun W hM => ?_, ?_⟩; (go_simp; exact ⟨rfl, rfl⟩); (exact cells_any g W); (intro bp hbp); (simp only [Act.put, List.setIfInBounds_toArray, List.set_cons_succ, List.set_cons_zero]))
    (refine mix_one (i := 3) (by kernel_rfl) rfl (by kernel_rfl) rfl ?_)
    (refine step_call ?_; apply Exists.intro; apply Exists.intro; apply Exists.intro; refine ⟨fun W => ?_, fun W hM => ?_, ?_⟩; (go_simp; exact ⟨rfl, rfl⟩); (exact HS'.out bp W (hM.ats 0 _ _ _ rfl)); (simp only [Act.put, List.setIfInBounds_toArray, List.set_cons_succ, List.set_cons_zero]))
    (refine mix_one (i := 5) (by kernel_rfl) rfl (by kernel_rfl) rfl ?_)
    (refine step_val ?_; apply Exists.intro; refine ⟨fun W => ?_, ?_⟩; (go_simp; (try simp only [w2, if_true]); rfl); (simp only [Act.put, List.setIfInBounds_toArray, List.set_cons_succ, List.set_cons_zero]))
    (refine mix_one (i := 6) (by kernel_rfl) rfl (by kernel_rfl) rfl ?_)
    (refine step_val ?_; apply Exists.intro; refine ⟨fun W => ?_, ?_⟩; (go_simp; rfl); (simp only [Act.put, List.setIfInBounds_toArray, List.set_cons_succ, List.set_cons_zero]))
    (refine mix_end (by kernel_rfl) ?_; intro W' hM; simp only [List.cons_append, List.nil_append] at hM)
    rcases (show y < 0 ∨ y = 0 ∨ 0 < y by omega) with hs | hs | hs
    · have ds : decide (-y < y) = false := decide_eq_false (by omega)
      have ds' : decide (y < -y) = true := decide_eq_true (by omega)
      have dt : y < -y := by omega
      have hv := Lib.hid (Hfx.out.trans (absN_neg (x := y) (by omega)))
      clear hs
      go_wp2
      go_ret
      exact ⟨ret_i hv.out.symm, hM.below⟩
    · subst hs
      have hv := Lib.hid (Hfx.out.trans (absN_neg (x := 0) (by omega)))
      go_wp2
      go_ret
      exact ⟨ret_i (by rw [hv.out]; rfl), hM.below⟩
    · have ds : decide (-y < y) = true := decide_eq_true (by omega)
      have ds' : decide (y < -y) = false := decide_eq_false (by omega)
      have dt : -y < y := by omega
      have hv := Lib.hid (Hfx.out.trans (absN_pos (x := y) (by omega)))
      clear hs
      go_wp2
      go_ret
      exact ⟨ret_i hv.out.symm, hM.below⟩
  · obtain ⟨hnc, hF⟩ := hy
    rw [show bkY (some (bl, cl, F)) ++ ([] : Blocks) = [(bl, cl * 2, F)] from rfl]
    simp only [vbY, Act.put, List.setIfInBounds_toArray, List.set_cons_succ, List.set_cons_zero]
    (refine thr_call_new rfl (n := 1) (f := fun _ => .slice (some ⟨bl, 0, none⟩) l.length cl) (fun b => .func (.func 129) #[] #[.pointer (some ⟨b, 0, none⟩)]) ?_; apply Exists.intro; apply Exists.intro; refine ⟨fun W => ?_, fun W hM => ?_, ?_⟩; (go_simp; exact ⟨rfl, rfl⟩); (exact values_any bl l.length cl W); (intro bh hbh); (simp only [Act.put, List.setIfInBounds_toArray, List.set_cons_succ, List.set_cons_zero]))
    (refine thr_call rfl ?_; apply Exists.intro; apply Exists.intro; apply Exists.intro; refine ⟨fun W => ?_, fun W hM => ?_, ?_⟩; (go_simp; exact ⟨rfl, rfl⟩); (exact sumGrass_listF g hg Hgr.out bh bl (cl * 2) l.length cl (sL l) F hF (by omega) (by omega) Hfit.out W (hM.ats 0 _ _ _ rfl) (hM.ats 1 _ _ _ rfl) (hM.apart 0 1 _ _ rfl rfl (by omega))); (simp only [Act.put, List.setIfInBounds_toArray, List.set_cons_succ, List.set_cons_zero]))
    (refine thr_val rfl ?_; apply Exists.intro; refine ⟨fun W => ?_, ?_⟩; (go_simp; rfl); (simp only [Act.put, List.setIfInBounds_toArray, List.set_cons_succ, List.set_cons_zero]))
    (refine thr_nil ?_; intro W' hM; simp only [List.cons_append, List.nil_append] at hM)
    rw [cellsL_sL, Hsum.out]
    go_wp2
    ((try simp only [Act.put, List.setIfInBounds_toArray, List.set_cons_succ, List.set_cons_zero]); refine region_reads [0, 1, 4] #[true, true, false, false, true, false, false] 4 (by kernel_rfl) (by kernel_rfl) (by kernel_rfl) hM ?_; clear hM; (repeat (refine qs_plain rfl rfl ?_; first | (refine b_get _ _ rfl _ _ rfl 3 rfl (rowTab _ _ rfl) (by omega) ?_; (simp only [Act.put, List.setIfInBounds_toArray, List.set_cons_succ, List.set_cons_zero])) | (refine b_val ?_; apply Exists.intro; refine ⟨fun W => ?_, ?_⟩; (go_simp; (try simp only [w2, if_true]); rfl); (simp only [Act.put, List.setIfInBounds_toArray, List.set_cons_succ, List.set_cons_zero])))); (with_reducible refine qs_nil ?_))
    (refine mix_one (i := 2) (by kernel_rfl) rfl (by kernel_rfl) rfl ?_)
    (refine step_call_new (n := 122) (f := pas g) (fun b => .func (.func 148) #[] #[.pointer (some ⟨b, 0, none⟩)]) ?_; apply Exists.intro; apply Exists.intro; refine ⟨fun W => ?_, fun W hM => ?_, ?_⟩; (go_simp; exact ⟨rfl, rfl⟩); (exact cells_any g W); (intro bp hbp); (simp only [Act.put, List.setIfInBounds_toArray, List.set_cons_succ, List.set_cons_zero]))
    (refine mix_one (i := 3) (by kernel_rfl) rfl (by kernel_rfl) rfl ?_)
    (refine step_call ?_; apply Exists.intro; apply Exists.intro; apply Exists.intro; refine ⟨fun W => ?_, fun W hM => ?_, ?_⟩; (go_simp; exact ⟨rfl, rfl⟩); (exact HS'.out bp W (hM.ats 0 _ _ _ rfl)); (simp only [Act.put, List.setIfInBounds_toArray, List.set_cons_succ, List.set_cons_zero]))
    (refine mix_one (i := 5) (by kernel_rfl) rfl (by kernel_rfl) rfl ?_)
    (refine step_val ?_; apply Exists.intro; refine ⟨fun W => ?_, ?_⟩; (go_simp; (try simp only [w2, if_true]); rfl); (simp only [Act.put, List.setIfInBounds_toArray, List.set_cons_succ, List.set_cons_zero]))
    (refine mix_one (i := 6) (by kernel_rfl) rfl (by kernel_rfl) rfl ?_)
    (refine step_val ?_; apply Exists.intro; refine ⟨fun W => ?_, ?_⟩; (go_simp; rfl); (simp only [Act.put, List.setIfInBounds_toArray, List.set_cons_succ, List.set_cons_zero]))
    (refine mix_end (by kernel_rfl) ?_; intro W' hM; simp only [List.cons_append, List.nil_append] at hM)
    rcases (show y < 0 ∨ y = 0 ∨ 0 < y by omega) with hs | hs | hs
    · have ds : decide (-y < y) = false := decide_eq_false (by omega)
      have ds' : decide (y < -y) = true := decide_eq_true (by omega)
      have dt : y < -y := by omega
      have hv := Lib.hid (Hfx.out.trans (absN_neg (x := y) (by omega)))
      clear hs
      go_wp2
      go_ret
      exact ⟨ret_i hv.out.symm, hM.below⟩
    · subst hs
      have hv := Lib.hid (Hfx.out.trans (absN_neg (x := 0) (by omega)))
      go_wp2
      go_ret
      exact ⟨ret_i (by rw [hv.out]; rfl), hM.below⟩
    · have ds : decide (-y < y) = true := decide_eq_true (by omega)
      have ds' : decide (y < -y) = false := decide_eq_false (by omega)
      have dt : -y < y := by omega
      have hv := Lib.hid (Hfx.out.trans (absN_pos (x := y) (by omega)))
      clear hs
      go_wp2
      go_ret
      exact ⟨ret_i hv.out.symm, hM.below⟩
end Go.Proofs.YtbmaljhnldepoaaDoor

/-
  The closure of impl.CutColumn by contract.
-/
namespace Go.Proofs.YtbmaljhnldepoaaDoor
open Go Go.RowKit Go.BigFrame

set_option maxRecDepth 100000 in
set_option maxHeartbeats 1000000 in
theorem cutCol1_any (g : Nat → Int) (hg : Fits g) (ho : okB g = true) (c : Nat) (hc : c ≤ (g 0).toNat) (a b : Int) (ba : 0 ≤ a ∧ a ≤ 1000000) (bb : 0 ≤ b ∧ b ≤ 1000000) (b1 b2 b3 : Nat) (X : World) (hM : Mem X [(b3, 1, fun _ => .int .i64 b), (b2, 1, fun _ => .int .i64 a), (b1, 122, pas g)] X) :
    Calls Tryd.prog 103 #[.int .i64 (c : Int), .pointer (some ⟨b1, 0, none⟩), .pointer (some ⟨b2, 0, none⟩), .pointer (some ⟨b3, 0, none⟩)] X fun e w' => e = .returned (.int .i64 (cutF g a b c)) ∧ Below X.heap.size X w' := by
  have HT := Lib.hid (fun W => tilt_any g hg ho c hc a b ba bb W)
  have tk_q1 : True := trivial; have tk_q2 : True := trivial; have tk_q3 : True := trivial
  go_enter Tryd.func103, Tryd.ntmps103
  go_wp2_with (first | (have _t := tk_q1; (refine wpList_get rfl _ _ rfl _ _ rfl hM 2 rfl (rowTab _ _ rfl) (by omega) ?_); clear tk_q1) | (have _t := tk_q2; (refine wpList_get1 rfl _ _ rfl _ _ rfl hM 1 rfl (cellTab _ rfl) (by omega) (.int .i64 a) rfl ?_); clear tk_q2) | (have _t := tk_q3; (refine wpList_get1 rfl _ _ rfl _ _ rfl hM 0 rfl (cellTab _ rfl) (by omega) (.int .i64 b) rfl ?_); clear tk_q3) | (go_at_call 104; refine (HT.out _).mono ?_; rintro e W' ⟨rfl, hb'⟩; have hM' := hM.call hb'; clear hM hb'; have hM := hM'; clear hM'))
  go_ret
  exact ⟨ret_i rfl, hM.below⟩
end Go.Proofs.YtbmaljhnldepoaaDoor

/-
  impl.fewest over the first numbers, by contract.
-/
namespace Go.Proofs.YtbmaljhnldepoaaDoor
open Go Go.RowKit Go.BigFrame

set_option maxRecDepth 100000 in
set_option maxHeartbeats 1000000 in
theorem fewest_any (f : Nat → Int) (n : Nat) (hn : 2 ≤ n ∧ n ≤ 1000) {gf : Nat} {lb : Array Value} (eg : ∀ args w, (callFunc gf args).run Tryd.prog w = .ok (.enter gf args) w) (bl N cp : Nat) (F : Nat → Value) (hN : n ≤ N) (hcp : n ≤ cp) (hF : ∀ k, k < n → F k = .int .i64 (k : Int)) (w : World) (hA : At w bl N F)
    (hcl : ∀ X, Below w.heap.size w X → ∀ k : Nat, k < n → Calls Tryd.prog gf (#[.int .i64 (k : Int)] ++ lb) X fun e w' => e = .returned (.int .i64 (f k)) ∧ Below X.heap.size X w') :
    Calls Tryd.prog 102 #[.slice (some ⟨bl, 0, none⟩) n cp, .func (.func gf) #[] lb] w fun e w' => e = .returned (.tuple #[.int .i64 (amin f n : Nat), .int .i64 (f (amin f n))]) ∧ Below w.heap.size w w' := by
  have hM : Mem w [(bl, N, F)] w := (Mem.nil w).old hA (fun i p h => by simp at h)
  have Hcl := Lib.hid hcl
  have HF := Lib.hid hF
  have e0 : F 0 = .int .i64 0 := hF 0 (by omega)
  have n0 : 0 < n := by omega
  clear hcl hF hA
  go_enter Tryd.func102, Tryd.ntmps102
  go_wp2
  ((try simp only [Act.put, List.setIfInBounds_toArray, List.set_cons_succ, List.set_cons_zero]); refine region_mix (n := 7) (by kernel_rfl) (by kernel_rfl) hM ?_; clear hM; simp only [List.take_succ_cons, List.take_zero, List.drop_succ_cons, List.drop_zero]; (repeat (refine wpB_plain rfl ?_; first | (refine b_get1 _ _ rfl _ _ rfl 0 rfl (cellTab _ rfl) (by omega) _ (e0) ?_; (simp only [Act.put, List.setIfInBounds_toArray, List.set_cons_succ, List.set_cons_zero])) | (refine b_val ?_; apply Exists.intro; refine ⟨fun W => ?_, ?_⟩; (go_simp; (try simp only [n0, if_true]); rfl); (simp only [Act.put, List.setIfInBounds_toArray, List.set_cons_succ, List.set_cons_zero])))); (with_reducible refine wpB_nil ?_))
  refine thr_call rfl ?_
  refine ⟨gf, #[.int .i64 0] ++ lb, .int .i64 (f 0), fun W => ?_, fun W hM => ?_, ?_⟩
  · go_simp
  · exact Hcl.out W hM.below 0 (by omega)
  simp only [Act.put, List.setIfInBounds_toArray, List.set_cons_succ, List.set_cons_zero]
  (refine thr_val rfl ?_; apply Exists.intro; refine ⟨fun W => ?_, ?_⟩; (go_simp; rfl); (simp only [Act.put, List.setIfInBounds_toArray, List.set_cons_succ, List.set_cons_zero]))
  (refine thr_val rfl ?_; apply Exists.intro; refine ⟨fun W => ?_, ?_⟩; (go_simp; rfl); (simp only [Act.put, List.setIfInBounds_toArray, List.set_cons_succ, List.set_cons_zero]))
  (refine thr_nil ?_; intro W' hM; simp only [List.cons_append, List.nil_append] at hM)
  go_wp2
  all_goals try (exfalso; omega)
  have Hcp : Hid (¬ cp = 1) := Lib.hid (by omega)
  clear e0 n0
  go_loopw [6, 7, 22] (fun best least i wr => ∃ k : Nat, k ≤ n - 1 ∧ i = .int .i64 k ∧ best = .int .i64 (amin f (k + 1) : Nat) ∧ least = .int .i64 (f (amin f (k + 1))) ∧ Mem w [(bl, N, F)] wr) (fun _ _ i _ => n - 1 - (intOf i).toNat)
  case atStart => exact ⟨0, by omega, rfl, rfl, rfl, hM⟩
  case round =>
    clear hM
    obtain ⟨k, hk, rfl, rfl, rfl, hM⟩ := hrel
    by_cases hlt : k < n - 1
    · have l1 : (k : Int) < ((n - 1 : Nat) : Int) := by omega
      have e1 : F (1 + k) = .int .i64 ((k + 1 : Nat) : Int) := by rw [Nat.add_comm]; exact HF.out (k + 1) (by omega)
      by_cases hq : f (k + 1) < f (amin f (k + 1))
      · have dq : decide (f (k + 1) < f (amin f (k + 1))) = true := decide_eq_true hq
        have hy := Lib.hid (amin_yes (f := f) (n := k + 1) (by omega) hq)
        go_wp2_with (first | (refine wpList_get1 rfl _ _ rfl _ _ rfl hM 0 rfl (cellTab _ rfl) (by omega) _ e1 ?_) | (go_at_fn gf; have hgd := hM.below; (refine (Hcl.out _ hgd (k + 1) (by omega)).mono ?_); clear hgd; rintro e W' ⟨rfl, hb'⟩; have hM' := hM.call hb'; clear hM hb'; have hM := hM'; clear hM'))
        go_roundw
        case rel => exact ⟨k + 1, by omega, by go_num, by rw [hy.out]; rfl, by rw [hy.out], hM⟩
        case measure => simp [intOf]; omega
      · have dq : decide (f (k + 1) < f (amin f (k + 1))) = false := decide_eq_false hq
        have hy := Lib.hid (amin_no (f := f) (n := k + 1) (by omega) hq)
        go_wp2_with (first | (refine wpList_get1 rfl _ _ rfl _ _ rfl hM 0 rfl (cellTab _ rfl) (by omega) _ e1 ?_) | (go_at_fn gf; have hgd := hM.below; (refine (Hcl.out _ hgd (k + 1) (by omega)).mono ?_); clear hgd; rintro e W' ⟨rfl, hb'⟩; have hM' := hM.call hb'; clear hM hb'; have hM := hM'; clear hM'))
        go_roundw
        case rel => exact ⟨k + 1, by omega, by go_num, by rw [hy.out], by rw [hy.out], hM⟩
        case measure => simp [intOf]; omega
    · obtain rfl : k = n - 1 := by omega
      have hn1 : n - 1 + 1 = n := by omega
      rw [hn1]
      go_wp2
      go_ret2
      exact ⟨rfl, hM.below⟩
end Go.Proofs.YtbmaljhnldepoaaDoor

/-
  PLAIN LAWS: slice literals of two and of three elements of one cell; make of no element, with room.
-/
namespace Go.Proofs.YtbmaljhnldepoaaDoor
open Go Go.RowKit
variable {P : Program} {ops : Array Oper} {rest : List Oper} {o : Oper} {a : Act} {w : Base} {W : World} {Q : Exit → Act → World → Prop} {L : Blocks}

theorem cells_one {v : Value} (h : v.oneCell' = true) : v.cells = #[v] := by cases v <;> first | rfl | (simp [Value.oneCell'] at h)
theorem fill_cell {place : Nat → Option (Nat × Nat)} {cs : Array Value} {i off : Nat} {v : Value} (hv : v.oneCell' = true) (hp : place i = some (off, 1)) (hle : off < cs.size) (rest : List (Nat × Value)) :
    Instr.fill place cs ((i, v) :: rest) = Instr.fill place (cs.setIfInBounds off v) rest := by
  rw [Instr.fill, hp]
  simp only [cells_one hv, List.size_toArray, List.length_cons, List.length_nil, Nat.zero_add, ne_eq, not_true_eq_false, decide_false, Bool.false_or]
  rw [if_neg (by simp; omega)]
  congr 1
theorem wpList_lit2 (hgd : o.guard = none) (t e : TypeId) (x y : Operand) (ho : o.op = .buildSlice t 2 #[(0, x), (1, y)]) (u v : Value) (hx : a.eval x = u) (hy : a.eval y = v) (h0 : u.oneCell' = true) (h1 : v.oneCell' = true) (z : Value)
    (hu : P.underlying t = some (.slice e)) (hz : (P.info? e).map (fun i => (i.size, i.zero)) = some (1, some z)) (hM : Mem w L W)
    (h : ∀ b W', w.B ≤ b → Mem w ((b, 2, fun k => if k = 0 then u else v) :: L) W' → wpList P ops Q rest (a.put o.dst (.slice (some ⟨b, 0, none⟩) 2 2)) W') : wpList P ops Q (o :: rest) a W := by
  obtain ⟨ie, hie, hq⟩ := Option.map_eq_some_iff.1 hz
  simp only [Prod.mk.injEq] at hq
  refine wpList_buildSlice hgd t e 2 _ ho (arr 2 fun k => if k = 0 then u else v) ie z hu hie hq.2 (by rw [hq.1]; omega) (by rw [hq.1]; omega) ?_ (h _ _ hM.size (hM.alloc e 2 _))
  rw [hq.1]
  rw [show (Array.map (fun x => match x with | (i, x) => (i, a.eval x)) #[(0, x), (1, y)]).toList = [(0, u), (1, v)] by simp [hx, hy]]
  rw [fill_cell h0 (off := 0) rfl (by simp), fill_cell h1 (off := 1) rfl (by simp), Instr.fill]
  refine congrArg some (arr_ext (by simp) (fun k hk => ?_))
  rcases (show k = 0 ∨ k = 1 by omega) with rfl | rfl <;> simp
theorem wpList_lit3 (hgd : o.guard = none) (t e : TypeId) (x y q : Operand) (ho : o.op = .buildSlice t 3 #[(0, x), (1, y), (2, q)]) (u v s : Value) (hx : a.eval x = u) (hy : a.eval y = v) (hs : a.eval q = s) (h0 : u.oneCell' = true) (h1 : v.oneCell' = true) (h2 : s.oneCell' = true) (z : Value)
    (hu : P.underlying t = some (.slice e)) (hz : (P.info? e).map (fun i => (i.size, i.zero)) = some (1, some z)) (hM : Mem w L W)
    (h : ∀ b W', w.B ≤ b → Mem w ((b, 3, fun k => if k = 0 then u else if k = 1 then v else s) :: L) W' → wpList P ops Q rest (a.put o.dst (.slice (some ⟨b, 0, none⟩) 3 3)) W') : wpList P ops Q (o :: rest) a W := by
  obtain ⟨ie, hie, hq⟩ := Option.map_eq_some_iff.1 hz
  simp only [Prod.mk.injEq] at hq
  refine wpList_buildSlice hgd t e 3 _ ho (arr 3 fun k => if k = 0 then u else if k = 1 then v else s) ie z hu hie hq.2 (by rw [hq.1]; omega) (by rw [hq.1]; omega) ?_ (h _ _ hM.size (hM.alloc e 3 _))
  rw [hq.1]
  rw [show (Array.map (fun x => match x with | (i, x) => (i, a.eval x)) #[(0, x), (1, y), (2, q)]).toList = [(0, u), (1, v), (2, s)] by simp [hx, hy, hs]]
  rw [fill_cell h0 (off := 0) rfl (by simp), fill_cell h1 (off := 1) rfl (by simp), fill_cell h2 (off := 2) rfl (by simp), Instr.fill]
  refine congrArg some (arr_ext (by simp) (fun k hk => ?_))
  rcases (show k = 0 ∨ k = 1 ∨ k = 2 by omega) with rfl | rfl | rfl <;> simp
/-- A slice literal of one element of one cell. -/
theorem wpList_lit1 (hgd : o.guard = none) (t e : TypeId) (x : Operand) (ho : o.op = .buildSlice t 1 #[(0, x)]) (u : Value) (hx : a.eval x = u) (h0 : u.oneCell' = true) (z : Value)
    (hu : P.underlying t = some (.slice e)) (hz : (P.info? e).map (fun i => (i.size, i.zero)) = some (1, some z)) (hM : Mem w L W)
    (h : ∀ b W', w.B ≤ b → Mem w ((b, 1, fun _ => u) :: L) W' → wpList P ops Q rest (a.put o.dst (.slice (some ⟨b, 0, none⟩) 1 1)) W') : wpList P ops Q (o :: rest) a W := by
  obtain ⟨ie, hie, hq⟩ := Option.map_eq_some_iff.1 hz
  simp only [Prod.mk.injEq] at hq
  refine wpList_buildSlice hgd t e 1 _ ho (arr 1 fun _ => u) ie z hu hie hq.2 (by rw [hq.1]; omega) (by rw [hq.1]; omega) ?_ (h _ _ hM.size (hM.alloc e 1 _))
  rw [hq.1]
  rw [show (Array.map (fun x => match x with | (i, x) => (i, a.eval x)) #[(0, x)]).toList = [(0, u)] by simp [hx]]
  rw [fill_cell h0 (off := 0) rfl (by simp), Instr.fill]
  refine congrArg some (arr_ext (by simp) (fun k hk => ?_))
  obtain rfl : k = 0 := by omega
  simp

/-- make of no element, with room for n of one cell. -/
theorem wpList_make0 (hgd : o.guard = none) (t e : TypeId) (x y : Operand) (ho : o.op = .makeSlice t x y) (n : Nat) (hx : a.eval x = .int .i64 0) (hy : a.eval y = .int .i64 n) (z : Value) (bs : Nat) (hzc : z.oneCell' = true)
    (hu : P.underlying t = some (.slice e)) (hz : (P.info? e).map (fun i => (i.size, i.zero, i.bytes)) = some (1, some z, bs)) (hbs : bs ≤ 1000) (hn : n ≤ 1048576) (hM : Mem w L W)
    (h : ∀ b W', w.B ≤ b → Mem w ((b, n * 1, fun _ => z) :: L) W' → wpList P ops Q rest (a.put o.dst (.slice (some ⟨b, 0, none⟩) 0 n)) W') : wpList P ops Q (o :: rest) a W := by
  obtain ⟨ie, hie, hq⟩ := Option.map_eq_some_iff.1 hz
  simp only [Prod.mk.injEq] at hq
  obtain ⟨q1, q2, q3⟩ := hq
  refine wpList_plain hgd fun K hK => ?_
  have hb : (ie.bytes : Int) * (n : Int) ≤ 281474976710656 := by
    rw [q3]
    have : bs * n ≤ 1000 * 1048576 := Nat.mul_le_mul hbs hn
    have h2 : ((bs * n : Nat) : Int) ≤ 1000 * 1048576 := by omega
    rw [Int.natCast_mul] at h2
    omega
  have hr := run_make (P := P) W t e ie z hu hie q2 .i64 .i64 0 n (by omega) (by omega) hb (by omega)
  have hc : madeCells z.cells (n * 1) = arr (n * 1) (fun _ => z) := by
    refine arr_ext (by simp [madeCells]) (fun k hk => ?_)
    have hk' : k < n := by omega
    rw [cells_one hzc]
    simp [madeCells, hk', Nat.mod_one]
  simp only [Int.toNat_natCast, q1, hc] at hr
  unfold Oper.wp execOp
  simp only [ho, hx, hy, Sem.run_bind, Sem.run_pure, hr, Result.andThen_ok]
  exact hK _ _ (h _ _ hM.size (hM.alloc e (n * 1) _))
end Go.Proofs.YtbmaljhnldepoaaDoor

/-
  errors.Join of errors that are all the same one, or nil, by contract.
-/
namespace Go.Proofs.YtbmaljhnldepoaaDoor
open Go Go.RowKit Go.BigFrame

/-- Errors told by whether they are there; x the one that it is. -/
def errE (x : Addr) (es : Nat → Bool) : Nat → Value := fun k => if es k then errV x else .nilIface
theorem errE_one (x : Addr) (es : Nat → Bool) (k : Nat) : (errE x es k).oneCell' = true := by unfold errE; split <;> rfl
/-- How many of the first k are there. -/
def cntE (es : Nat → Bool) : Nat → Nat
  | 0 => 0
  | k + 1 => cntE es k + (if es k then 1 else 0)
theorem cntE_le (es : Nat → Bool) : ∀ k, cntE es k ≤ k
  | 0 => by simp [cntE]
  | k + 1 => by have := cntE_le es k; simp only [cntE]; split <;> omega
theorem cntE_mono (es : Nat → Bool) : ∀ {k n : Nat}, k ≤ n → cntE es k ≤ cntE es n
  | k, 0, h => by obtain rfl : k = 0 := by omega
                  exact Nat.le_refl _
  | k, n + 1, h => by
    by_cases e : k = n + 1
    · rw [e]; exact Nat.le_refl _
    · have := cntE_mono es (show k ≤ n by omega); simp only [cntE]; omega
theorem cntE_yes {es : Nat → Bool} {k : Nat} (h : es k = true) : cntE es (k + 1) = cntE es k + 1 := by simp [cntE, h]
theorem cntE_no {es : Nat → Bool} {k : Nat} (h : es k = false) : cntE es (k + 1) = cntE es k := by simp [cntE, h]

theorem upd_one (f : Nat → Value) (v : Value) : ∀ k, k < 1 → upd f 0 v k = v := fun k hk => by simp [upd, show k = 0 by omega]
/-- A joined error's value; what lies behind it. -/
def joinV (b : Nat) : Value := .iface 182 (.pointer (some ⟨b, 0, none⟩))
def JoinAt (W : World) (b : Nat) (x : Addr) (c : Nat) : Prop := ∃ eb cc F, At W b 1 (fun _ => .slice (some ⟨eb, 0, none⟩) c cc) ∧ At W eb (cc * 1) F ∧ b ≠ eb ∧ c ≤ cc ∧ ∀ j, j < c → F j = errV x
theorem JoinAt.below {W W' : World} {b c : Nat} {x : Addr} (h : JoinAt W b x c) (hb : Below W.heap.size W W') : JoinAt W' b x c := by
  obtain ⟨eb, cc, F, h1, h2, h3⟩ := h
  exact ⟨eb, cc, F, h1.below hb h1.lt, h2.below hb h2.lt, h3⟩

theorem run_buildJ (v : Value) (W : World) (b : Option Addr) (n c : Nat) (hv : v = .slice b n c) : (Instr.build 184 #[(0, v)]).run Tryd.prog W = .ok (.agg (arr 1 fun _ => v)) W := by
  subst hv; kernel_rfl
theorem wpList_buildJ {ops : Array Oper} {rest : List Oper} {o : Oper} {a : Act} {W : World} {Q : Exit → Act → World → Prop} (hgd : o.guard = none) (x : Operand) (ho : o.op = .build 184 #[(0, x)]) (b : Option Addr) (n c : Nat) (hx : a.eval x = .slice b n c)
    (h : wpList Tryd.prog ops Q rest (a.put o.dst (.agg (arr 1 fun _ => .slice b n c))) W) : wpList Tryd.prog ops Q (o :: rest) a W := by
  refine wpList_plain hgd fun K hK => ?_
  unfold Oper.wp execOp
  have e : (Array.map (fun (z : Nat × Operand) => match z with | (i, x) => (i, a.eval x)) #[(0, x)]) = #[(0, .slice b n c)] := by simp [hx]
  simp only [ho, e, Sem.run_bind, Sem.run_pure, run_buildJ _ W b n c rfl, Result.andThen_ok]
  exact hK _ _ h
theorem err_info : (Tryd.prog.info? 82).map (fun i => (i.size, i.zero, i.bytes)) = some (1, some .nilIface, 16) := by kernel_rfl
theorem err_info2 : (Tryd.prog.info? 82).map (fun i => (i.size, i.zero)) = some (1, some .nilIface) := by kernel_rfl
theorem errs_under : Tryd.prog.underlying 181 = some (.slice 82) := Tryd.underlying181

def JoinIn (w : World) (bl m n : Nat) (x : Addr) (es : Nat → Bool) (sb k : Nat) (wr : World) : Prop :=
  ∃ eb c F, (∀ j, j < cntE es k * 1 → F j = errV x) ∧ cntE es k ≤ c ∧ w.heap.size ≤ eb ∧ Mem w [(eb, c * 1, F), (sb, 1, fun _ => .slice (some ⟨eb, 0, none⟩) (cntE es k) c), (bl, m, errE x es)] wr

set_option maxRecDepth 100000 in
set_option maxHeartbeats 2000000 in
theorem join_none (x : Addr) (es : Nat → Bool) (bl m c : Nat) (hm : m ≤ 3) (h0 : cntE es m = 0) (w : World) (hA : At w bl m (errE x es)) :
    Calls Tryd.prog 98 #[.slice (some ⟨bl, 0, none⟩) m c] w fun e w' => e = .returned .nilIface ∧ Below w.heap.size w w' := by
  have hM : Mem w [(bl, m, errE x es)] w := (Mem.nil w).old hA (fun i p h => by simp at h)
  have hno : ∀ k, k < m → es k = false := fun k hk => by
    have := cntE_mono es (show k + 1 ≤ m by omega)
    cases e : es k
    · rfl
    · rw [cntE_yes e] at this; omega
  have Hno := Lib.hid hno
  clear hno h0 hA
  go_enter Tryd.func98, Tryd.ntmps98
  go_wp2
  go_loopw [3, 11] (fun n i wr => ∃ k : Nat, k ≤ m ∧ n = .int .i64 0 ∧ i = .int .i64 k ∧ Mem w [(bl, m, errE x es)] wr) (fun _ i _ => m - (intOf i).toNat)
  case atStart => exact ⟨0, by omega, rfl, rfl, hM⟩
  case round =>
    clear hM
    obtain ⟨k, hk, rfl, rfl, hM⟩ := hrel
    by_cases hlt : k < m
    · have lk : (k : Int) < m := by omega
      have e0 : errE x es (k * 1) = .nilIface := by rw [Nat.mul_one]; simp [errE, Hno.out k hlt]
      have e0' : errE x es k = .nilIface := by simp [errE, Hno.out k hlt]
      go_wp2_with (first | (refine wpList_get1 rfl _ _ rfl _ _ rfl hM 0 rfl (cellTab _ rfl) (by omega) _ (by first | exact e0 | exact e0') ?_))
      go_roundw
      case rel => exact ⟨k + 1, by omega, rfl, by go_num, hM⟩
      case measure => simp [intOf]; omega
    · obtain rfl : k = m := by omega
      go_wp2
      go_ret
      exact ⟨rfl, hM.below⟩

theorem errE_yes {x : Addr} {es : Nat → Bool} {k : Nat} (h : es k = true) : errE x es k = errV x := by simp [errE, h]
theorem errE_no {x : Addr} {es : Nat → Bool} {k : Nat} (h : es k = false) : errE x es k = .nilIface := by simp [errE, h]
set_option maxRecDepth 100000 in
set_option maxHeartbeats 4000000 in
theorem join_some (x : Addr) (es : Nat → Bool) (bl m c : Nat) (hm : m ≤ 3) (h0 : 0 < cntE es m) (w : World) (hA : At w bl m (errE x es)) :
    Calls Tryd.prog 98 #[.slice (some ⟨bl, 0, none⟩) m c] w fun e w' => ∃ b, e = .returned (joinV b) ∧ JoinAt w' b x (cntE es m) ∧ Below w.heap.size w w' := by
  have hM : Mem w [(bl, m, errE x es)] w := (Mem.nil w).old hA (fun i p h => by simp at h)
  clear hA
  go_enter Tryd.func98, Tryd.ntmps98
  go_wp2
  go_loopw [3, 11] (fun n i wr => ∃ k : Nat, k ≤ m ∧ n = .int .i64 (cntE es k : Nat) ∧ i = .int .i64 k ∧ Mem w [(bl, m, errE x es)] wr) (fun _ i _ => m - (intOf i).toNat)
  case atStart => exact ⟨0, by omega, rfl, rfl, hM⟩
  case round =>
    clear hM
    obtain ⟨k, hk, rfl, rfl, hM⟩ := hrel
    by_cases hlt : k < m
    · have lk : (k : Int) < m := by omega
      have hle := cntE_le es k
      have c1 : IntKind.i64.wrap ((cntE es k : Nat) + 1 : Int) = ((cntE es k + 1 : Nat) : Int) := by rw [IntWalk.i64_in _ (by omega)]; rfl
      clear hle
      cases he : es k
      · have e0 : errE x es k = .nilIface := errE_no he
        have e1 : errE x es (k * 1) = .nilIface := by rw [Nat.mul_one]; exact e0
        go_wp2_with (first | (refine wpList_get1 rfl _ _ rfl _ _ rfl hM 0 rfl (cellTab _ rfl) (by omega) _ (by first | exact e0 | exact e1) ?_))
        go_roundw
        case rel => exact ⟨k + 1, by omega, by rw [cntE_no he], by go_num, hM⟩
        case measure => simp [intOf]; omega
      · have e0 : errE x es k = errV x := errE_yes he
        have e1 : errE x es (k * 1) = errV x := by rw [Nat.mul_one]; exact e0
        go_wp2_with (first | (refine wpList_get1 rfl _ _ rfl _ _ rfl hM 0 rfl (cellTab _ rfl) (by omega) _ (by first | exact e0 | exact e1) ?_))
        go_roundw
        case rel => exact ⟨k + 1, by omega, by rw [cntE_yes he]; exact congrArg _ (by omega), by go_num, hM⟩
        case measure => simp [intOf]; omega
    · obtain rfl : k = m := by omega
      have hle := cntE_le es k
      have hpos : ¬ ((cntE es k : Nat) : Int) = 0 := by omega
      have hpos2 : decide (((cntE es k : Nat) : Int) = 0) = false := decide_eq_false hpos
      have tk_q1 : True := trivial; have tk_q2 : True := trivial; have tk_q3 : True := trivial
      go_wp2_with (first | (have _t := tk_q1; refine wpList_make0 rfl _ _ _ _ rfl (cntE es k) rfl rfl .nilIface 16 rfl errs_under err_info (by omega) (by omega) hM ?_; intro eb W' heb hM'; clear hM tk_q1; have hM := hM'; clear hM') | (have _t := tk_q2; refine wpList_buildJ rfl _ rfl _ _ _ rfl ?_; clear tk_q2) | (have _t := tk_q3; refine wpList_box rfl _ _ rfl 1 _ rfl hM ?_; intro sb W' hsb hM'; clear hM tk_q3; have hM := hM'; clear hM'))
      have hJ : ∀ w0, w0 = w → ∀ wr, Mem w [(sb, 1, fun _ => .slice (some ⟨eb, 0, none⟩) 0 (cntE es k)), (eb, cntE es k * 1, fun _ => .nilIface), (bl, k, errE x es)] wr → JoinIn w bl k (cntE es k) x es sb 0 wr := fun _ _ wr h =>
        ⟨eb, cntE es k, fun _ => .nilIface, fun j hj => absurd hj (by simp [cntE]), by simp [cntE], heb, h.swap⟩
      go_loopw [28] (fun i wr => ∃ j : Nat, j ≤ k ∧ i = .int .i64 j ∧ JoinIn w bl k (cntE es k) x es sb j wr) (fun i _ => k - (intOf i).toNat)
      case atStart => exact ⟨0, by omega, rfl, hJ _ rfl _ hM⟩
      case round =>
        clear hM hJ
        obtain ⟨j, hj, rfl, eb1, c1, F1, hF1, hc1, heb1, hM⟩ := hrel
        by_cases hjl : j < k
        · have lj : (j : Int) < k := by omega
          have hlej := cntE_le es j
          cases he : es j
          · have e0 : errE x es j = .nilIface := errE_no he
            have e1 : errE x es (j * 1) = .nilIface := by rw [Nat.mul_one]; exact e0
            go_wp2_with (first | (refine wpList_get1 rfl _ _ rfl _ _ rfl hM 2 rfl (cellTab _ rfl) (by omega) _ (by first | exact e0 | exact e1) ?_))
            go_roundw
            case rel => exact ⟨j + 1, by omega, by go_num, eb1, c1, F1, by rw [cntE_no he]; exact hF1, by rw [cntE_no he]; exact hc1, heb1, by rw [cntE_no he]; exact hM⟩
            case measure => simp [intOf]; omega
          · have e0 : errE x es j = errV x := errE_yes he
            have e1 : errE x es (j * 1) = errV x := by rw [Nat.mul_one]; exact e0
            have tk_r1 : True := trivial; have tk_r2 : True := trivial; have tk_r3 : True := trivial; have tk_p1 : True := trivial; have tk_r4 : True := trivial
            go_wp2_with (first | (have _t := tk_r1; refine wpList_get1 rfl _ _ rfl _ _ rfl hM 2 rfl (cellTab _ rfl) (by omega) _ (by first | exact e0 | exact e1) ?_; clear tk_r1) | (have _t := tk_r2; (refine wpList_get1 rfl _ _ rfl _ _ rfl hM 1 rfl (cellTab _ rfl) (by omega) _ rfl ?_); clear tk_r2) | (have _t := tk_r3; refine wpList_lit1 rfl _ _ _ rfl (errV x) rfl rfl _ errs_under err_info2 hM ?_; intro bn W' hbn hM'; clear hM tk_r3; have hM := hM'; clear hM') | (have _t := tk_p1; refine wpList_push1 rfl _ _ _ rfl _ 1 _ _ errs_under err_info rfl (by omega) _ _ _ _ rfl heb1 hc1 (by omega) _ _ rfl (fun _ _ => rfl) hM (fun _ => errV x) hF1 (fun _ _ => rfl) ?_; intro bL cL FL W' hbL hcL hFL hM'; clear hM tk_p1; have hM := hM'; clear hM') | (have _t := tk_r4; (refine wpList_set1 rfl _ _ _ rfl _ _ rfl _ rfl ?_ hM 1 rfl (by assumption) (cellTab _ rfl) (by omega) ?_; (first | rfl | exact h1 _); intro W' hM'; clear hM; have hM := hM'; clear hM'; simp [List.set, Act.eval] at hM); clear tk_r4))
            have hM2 := hM.re (b := sb) (n := 1) 1 rfl (fun _ => .slice (some ⟨bL, 0, none⟩) (cntE es j + 1) cL) (upd_one _ _)
            simp only [List.set] at hM2
            go_roundw
            case rel => exact ⟨j + 1, by omega, by go_num, bL, cL, FL, by rw [cntE_yes he]; exact hFL, by rw [cntE_yes he]; exact hcL, hbL, by rw [cntE_yes he, Nat.mul_one]; exact hM2⟩
            case measure => simp [intOf]; omega
        · obtain rfl : j = k := by omega
          go_wp2
          go_ret
          exact ⟨sb, rfl, ⟨eb1, c1, F1, hM.ats 1 _ _ _ rfl, hM.ats 0 _ _ _ rfl, hM.apart 1 0 _ _ rfl rfl (by omega), hc1, fun i hi => hF1 i (by omega)⟩, hM.below⟩
end Go.Proofs.YtbmaljhnldepoaaDoor

/-
  errors.Is and impl.codeOf of joined errors, by contracts.
-/
namespace Go.Proofs.YtbmaljhnldepoaaDoor
open Go Go.RowKit Go.BigFrame Go.Extern.Stop Go.Stop Go.Extern

theorem hasUnwraps (v : Value) (xT : TypeId) (w : World) : (Instr.typeAssert (.iface 182 v) xT 210 true).run Tryd.prog w = .ok (.tuple #[.iface 182 v, .bool true]) w := run_typeAssert_hasB Tryd.underlying210 (by kernel_rfl) v xT w
theorem noIsJ (v : Value) (xT : TypeId) (w : World) : (Instr.typeAssert (.iface 182 v) xT 205 true).run Tryd.prog w = .ok (.tuple #[.nilIface, .bool false]) w := run_typeAssert_lacksB Tryd.underlying205 (by kernel_rfl) (by kernel_rfl) v xT w
theorem noUnwrapJ (v : Value) (xT : TypeId) (w : World) : (Instr.typeAssert (.iface 182 v) xT 208 true).run Tryd.prog w = .ok (.tuple #[.nilIface, .bool false]) w := run_typeAssert_lacksB Tryd.underlying208 (by kernel_rfl) (by kernel_rfl) v xT w
theorem methodUnwraps (v : Value) (w : World) : (Go.method 374 182 v "Unwrap").run Tryd.prog w = .ok (203, v) w := by kernel_rfl
theorem eql_types (b : Nat) (y : Addr) (w : World) : (binOp .eql 82 (joinV b) (errV y)).run Tryd.prog w = .ok (.bool false) w := run_eql_iface_types _ _ _ _ Tryd.underlying82 (by decide) w

set_option maxRecDepth 100000 in
/-- errors.is of one error and itself. -/
theorem is1_same (x : Addr) (w : World) :
    Calls Tryd.prog 144 #[errV x, errV x, .bool true] w fun e w' => e = .returned (.bool true) ∧ w' = w := by
  obtain ⟨i, hi, hcmp⟩ := Option.map_eq_some_iff.1 isComp
  obtain ⟨j, hj, hjs⟩ := Option.map_eq_some_iff.1 isSize
  have heq := run_eql_iface_ptr_same (P := Tryd.prog) w x Tryd.underlying82 Tryd.underlying238 hi hcmp hj
  unfold errV
  go_enter Tryd.func144, Tryd.ntmps144
  go_wp2
  refine wp_loop_rounds 1 ?_
  rw [rounds_succ]
  go_wp2
  go_ret
  exact ⟨rfl, rfl⟩
set_option maxRecDepth 100000 in
/-- errors.is of two different errors. -/
theorem is1_other (a b : Addr) (ca cb : Array Value) (ta tb : TypeId) (w : World) (hne : a ≠ b) (ha : w.heap[a.block]? = some (.cells ca ta (0, 0))) (hb : w.heap[b.block]? = some (.cells cb tb (0, 0))) :
    Calls Tryd.prog 144 #[errV a, errV b, .bool true] w fun e w' => e = .returned (.bool false) ∧ w' = w := by
  obtain ⟨i, hi, hcmp⟩ := Option.map_eq_some_iff.1 isComp
  obtain ⟨j, hj, hjs⟩ := Option.map_eq_some_iff.1 isSize
  have nE := noIsE
  have uE := noUnwrapE
  have vE := noUnwrapsE
  have heq := run_eql_iface_ptr_other (P := Tryd.prog) w Tryd.underlying82 Tryd.underlying238 hi hcmp hj (by rw [hjs]; decide) hne ha hb
  unfold errV
  go_enter Tryd.func144, Tryd.ntmps144
  go_wp2
  refine wp_loop_rounds 1 ?_
  rw [rounds_succ]
  go_wp2
  go_ret
  exact ⟨rfl, rfl⟩
theorem is1_no {a : Nat → Addr} {w : World} (h : Errs a w) (i j : Nat) (hi : i < 7) (hj : j < 7) (e : i ≠ j) :
    Calls Tryd.prog 144 #[errV (a i), errV (a j), .bool true] w fun e w' => e = .returned (.bool false) ∧ w = w' := by
  obtain ⟨ca, ta, ha⟩ := h.cells i hi
  obtain ⟨cb, tb, hb⟩ := h.cells j hj
  exact (is1_other _ _ ca cb ta tb w (h.apart i j hi hj e) ha hb).mono fun _ _ h => ⟨h.1, h.2.symm⟩

theorem unwraps_any (b : Nat) (v : Value) (w : World) (hA : At w b 1 fun _ => v) :
    Calls Tryd.prog 203 #[.pointer (some ⟨b, 0, none⟩)] w fun e w' => e = .returned v ∧ w' = w := by
  have hc : w.cell? ⟨b, 0, none⟩ = some v := hA.cell (by omega)
  go_enter Tryd.func203, Tryd.ntmps203
  go_wp2
  go_ret
  exact ⟨rfl, rfl⟩

set_option maxRecDepth 100000 in
set_option maxHeartbeats 2000000 in
/-- errors.is of a joined error and the one that it holds. -/
theorem isJ_yes (b c : Nat) (x : Addr) (hc : 0 < c) (w : World) (hJ : JoinAt w b x c) :
    Calls Tryd.prog 144 #[joinV b, errV x, .bool true] w fun e w' => e = .returned (.bool true) ∧ w = w' := by
  obtain ⟨eb, cc, F, h1, h2, hne, hle, hF⟩ := hJ
  have nE := noIsJ
  have uE := noUnwrapJ
  have vE := hasUnwraps
  have mU := methodUnwraps
  have heq := eql_types b x
  have c0 : w.cell? ⟨eb, 0, none⟩ = some (errV x) := by rw [h2.cell (by omega), hF 0 hc]
  have lc : (0 : Int) < c := by omega
  have H1 := Lib.hid h1
  clear h1 h2 hF
  unfold joinV at heq ⊢
  go_enter Tryd.func144, Tryd.ntmps144
  go_wp2
  refine wp_loop_rounds 1 ?_
  rw [rounds_succ]
  go_wp2_with (first | (go_at_call 203; refine (unwraps_any b _ _ H1.out).mono ?_; rintro e W' ⟨rfl, rfl⟩))
  refine wp_loop_rounds 1 ?_
  rw [rounds_succ]
  go_wp2_with (first | (go_at_call 144; refine (is1_same x _).mono ?_; rintro e W' ⟨rfl, rfl⟩))
  go_ret
  exact ⟨rfl, rfl⟩

set_option maxRecDepth 100000 in
set_option maxHeartbeats 2000000 in
/-- errors.is of a joined error and another one than it holds. -/
theorem isJ_no {a : Nat → Addr} (b c : Nat) (i j : Nat) (hi : i < 7) (hj : j < 7) (hij : i ≠ j) (hcm : c ≤ 1000) (w : World) (hJ : JoinAt w b (a i) c) (hE : Errs a w) :
    Calls Tryd.prog 144 #[joinV b, errV (a j), .bool true] w fun e w' => e = .returned (.bool false) ∧ w = w' := by
  obtain ⟨eb, cc, F, h1, h2, hne, hle, hF⟩ := hJ
  have nE := noIsJ
  have uE := noUnwrapJ
  have vE := hasUnwraps
  have mU := methodUnwraps
  have heq := eql_types b (a j)
  have HF : Hid (∀ k, k < c → w.cell? ⟨eb, k, none⟩ = some (errV (a i))) := Lib.hid (fun k hk => by rw [h2.cell (by omega), hF k hk])
  have H1 := Lib.hid h1
  have HE := Lib.hid hE
  clear h1 h2 hF hE
  unfold joinV at heq ⊢
  go_enter Tryd.func144, Tryd.ntmps144
  go_wp2
  refine wp_loop_rounds 1 ?_
  rw [rounds_succ]
  go_wp2_with (first | (go_at_call 203; refine (unwraps_any b _ _ H1.out).mono ?_; rintro e W' ⟨rfl, rfl⟩))
  go_loopw [45] (fun n wr => ∃ k : Nat, k ≤ c ∧ n = .int .i64 k ∧ wr = W') (fun n _ => c - (intOf n).toNat)
  case atStart => exact ⟨0, by omega, rfl, rfl⟩
  case round =>
    obtain ⟨k, hk, rfl, rfl⟩ := hrel
    by_cases hlt : k < c
    · have lk : (k : Int) < c := by omega
      have ck := HF.out k hlt
      go_wp2_with (first | (go_at_call 144; refine (is1_no HE.out i j hi hj hij).mono ?_; rintro e W' ⟨rfl, rfl⟩))
      go_roundw
      case rel => exact ⟨k + 1, by omega, by go_num, by first | rfl | trivial⟩
      case measure => simp [intOf]; omega
    · obtain rfl : k = c := by omega
      go_wp2
      go_ret
      exact ⟨rfl, rfl⟩

set_option maxRecDepth 100000 in
theorem IsJ_yes {a : Nat → Addr} (b c : Nat) (i : Nat) (hi : i < 7) (hc : 0 < c) (w : World) (hJ : JoinAt w b (a i) c) :
    Calls Tryd.prog 107 #[joinV b, errV (a i)] w fun e w' => e = .returned (.bool true) ∧ w = w' := by
  have h8 := @run_callFunc_extern Tryd.prog 143 _ Extern.ReflectliteType.typeOf Tryd.func143 (by kernel_rfl) (by kernel_rfl) (by kernel_rfl) (by kernel_rfl)
  have tT := isTypeOf
  have cT := isComparable
  have mR := isMethodComparable
  have hY := isJ_yes b c (a i) hc w hJ
  unfold joinV errV at hY ⊢
  go_enter Tryd.func107, Tryd.ntmps107
  go_wp2_with (first | (go_at_call 144; refine hY.mono ?_; rintro e W' ⟨rfl, rfl⟩))
  go_ret
  exact ⟨rfl, rfl⟩
set_option maxRecDepth 100000 in
theorem IsJ_no {a : Nat → Addr} (b c : Nat) (i j : Nat) (hi : i < 7) (hj : j < 7) (hij : i ≠ j) (hcm : c ≤ 1000) (w : World) (hJ : JoinAt w b (a i) c) (hE : Errs a w) :
    Calls Tryd.prog 107 #[joinV b, errV (a j)] w fun e w' => e = .returned (.bool false) ∧ w = w' := by
  have h8 := @run_callFunc_extern Tryd.prog 143 _ Extern.ReflectliteType.typeOf Tryd.func143 (by kernel_rfl) (by kernel_rfl) (by kernel_rfl) (by kernel_rfl)
  have tT := isTypeOf
  have cT := isComparable
  have mR := isMethodComparable
  have hY := isJ_no b c i j hi hj hij hcm w hJ hE
  unfold joinV errV at hY ⊢
  go_enter Tryd.func107, Tryd.ntmps107
  go_wp2_with (first | (go_at_call 144; refine hY.mono ?_; rintro e W' ⟨rfl, rfl⟩))
  go_ret
  exact ⟨rfl, rfl⟩

set_option maxRecDepth 100000 in
set_option maxHeartbeats 4000000 in
/-- The code of joined errors of which each is the first one. -/
theorem codeJ_0 {a : Nat → Addr} {w : World} (b c : Nat) (hc : 0 < c) (h : Errs a w) (hJ : JoinAt w b (a 0) c) :
    Calls Tryd.prog 56 #[joinV b] w fun e w' => e = .returned (.int .i64 1) ∧ w = w' := by
  have v0 : w.cell? ⟨0, 0, none⟩ = some (errV (a 0)) := h.vars 0 (by omega)
  have HJ := Lib.hid hJ
  clear h hJ
  go_enter Tryd.func56, Tryd.ntmps56
  go_wp2_with (first | (go_at_call 107; (with_reducible refine (IsJ_yes b c 0 (by omega) hc _ HJ.out).mono ?_); rintro e W' ⟨rfl, rfl⟩))
  go_ret
  exact ⟨rfl, rfl⟩
set_option maxRecDepth 100000 in
set_option maxHeartbeats 4000000 in
/-- The code of joined errors of which each is the second one. -/
theorem codeJ_1 {a : Nat → Addr} {w : World} (b c : Nat) (hc : 0 < c) (hcm : c ≤ 1000) (h : Errs a w) (hJ : JoinAt w b (a 1) c) :
    Calls Tryd.prog 56 #[joinV b] w fun e w' => e = .returned (.int .i64 2) ∧ w = w' := by
  have v0 : w.cell? ⟨0, 0, none⟩ = some (errV (a 0)) := h.vars 0 (by omega)
  have v1 : w.cell? ⟨1, 0, none⟩ = some (errV (a 1)) := h.vars 1 (by omega)
  have HJ := Lib.hid hJ
  have H := Lib.hid h
  clear h hJ
  go_enter Tryd.func56, Tryd.ntmps56
  go_wp2_with (first | (go_at_call 107; (with_reducible refine (IsJ_no b c 1 0 (by omega) (by omega) (by omega) hcm _ HJ.out H.out).mono ?_); rintro e W' ⟨rfl, rfl⟩) | (go_at_call 107; (with_reducible refine (IsJ_yes b c 1 (by omega) hc _ HJ.out).mono ?_); rintro e W' ⟨rfl, rfl⟩))
  go_ret
  exact ⟨rfl, rfl⟩
@[go_sem] theorem guard_join (x : Operand) (b : Nat) (W : World) : (eqGuard .neq 82 x (.const .nilIface) (joinV b) .nilIface).run Tryd.prog W = .ok () W := by
  unfold joinV; go_simp
@[go_sem] theorem neq_join (b : Nat) (W : World) : (binOp .neq 82 (joinV b) .nilIface).run Tryd.prog W = .ok (.bool true) W := by
  unfold joinV; go_simp
end Go.Proofs.YtbmaljhnldepoaaDoor

/-
  impl.checkUpTo and impl.checkGrass by contracts.
-/
namespace Go.Proofs.YtbmaljhnldepoaaDoor
open Go Go.RowKit Go.BigFrame

set_option maxHeartbeats 400000 in
theorem checkUpTo_no {a : Nat → Addr} (n m : Int) (w : World) (hE : Errs a w) (h : inB 0 m n = false) :
    Calls Tryd.prog 99 #[.int .i64 n, .int .i64 m] w fun e w' => e = .returned (errV (a 1)) ∧ Below w.heap.size w w' := by
  have v1 : w.cell? ⟨1, 0, none⟩ = some (errV (a 1)) := hE.vars 1 (by omega)
  have h' : ¬ (0 ≤ n ∧ n ≤ m) := of_decide_eq_false h
  clear hE h
  by_cases h0 : n < 0
  · clear h'
    go_enter Tryd.func99, Tryd.ntmps99
    go_wp2
    go_ret
    exact ⟨rfl, Below.refl _ _⟩
  · have h1 : m < n := by omega
    have d1 : decide (m < n) = true := decide_eq_true h1
    clear h'
    go_enter Tryd.func99, Tryd.ntmps99
    go_wp2
    go_ret
    exact ⟨rfl, Below.refl _ _⟩
set_option maxHeartbeats 400000 in
theorem checkUpTo_yes (n m : Int) (w : World) (h : inB 0 m n = true) :
    Calls Tryd.prog 99 #[.int .i64 n, .int .i64 m] w fun e w' => e = .returned .nilIface ∧ Below w.heap.size w w' := by
  obtain ⟨h0, h1⟩ := inB_true h
  have d0 : decide (n < 0) = false := decide_eq_false (by omega)
  have d1 : decide (m < n) = false := decide_eq_false (by omega)
  clear h h0 h1
  go_enter Tryd.func99, Tryd.ntmps99
  go_wp2
  go_ret
  exact ⟨rfl, Below.refl _ _⟩
end Go.Proofs.YtbmaljhnldepoaaDoor

/-
  impl.checkGrass by contracts.
-/
namespace Go.Proofs.YtbmaljhnldepoaaDoor
open Go Go.RowKit Go.BigFrame

end Go.Proofs.YtbmaljhnldepoaaDoor

/-
  Errors that are there or not: checks as values; joined errors of two and of three.
-/
namespace Go.Proofs.YtbmaljhnldepoaaDoor
open Go Go.RowKit Go.BigFrame

/-- The error x, or none. -/
def errO (x : Addr) (b : Bool) : Value := if b then errV x else .nilIface
theorem errO_one (x : Addr) (b : Bool) : (errO x b).oneCell' = true := by cases b <;> rfl
theorem checkUpTo_any {a : Nat → Addr} (n m : Int) (w : World) (hE : Errs a w) :
    Calls Tryd.prog 99 #[.int .i64 n, .int .i64 m] w fun e w' => e = .returned (errO (a 1) (!inB 0 m n)) ∧ Below w.heap.size w w' := by
  cases h : inB 0 m n
  · exact checkUpTo_no n m w hE h
  · exact checkUpTo_yes n m w h
def es2 (p q : Bool) : Nat → Bool := fun k => if k = 0 then p else q
def es3 (p q r : Bool) : Nat → Bool := fun k => if k = 0 then p else if k = 1 then q else r
theorem lit2_errE (x : Addr) (p q : Bool) : ∀ k, k < 2 → (fun k => if k = 0 then errO x p else errO x q) k = errE x (es2 p q) k := fun k _ => by
  unfold errE es2 errO
  by_cases h : k = 0 <;> simp [h]
theorem lit3_errE (x : Addr) (p q r : Bool) : ∀ k, k < 3 → (fun k => if k = 0 then errO x p else if k = 1 then errO x q else errO x r) k = errE x (es3 p q r) k := fun k _ => by
  unfold errE es3 errO
  by_cases h : k = 0
  · simp [h]
  · by_cases h' : k = 1 <;> simp [h, h']
theorem cnt2_no : cntE (es2 false false) 2 = 0 := by decide
theorem cnt3_no : cntE (es3 false false false) 3 = 0 := by decide
theorem cnt2_yes {p q : Bool} (h : (p || q) = true) : 0 < cntE (es2 p q) 2 := by revert h; cases p <;> cases q <;> decide
theorem cnt3_yes {p q r : Bool} (h : (p || q || r) = true) : 0 < cntE (es3 p q r) 3 := by revert h; cases p <;> cases q <;> cases r <;> decide
end Go.Proofs.YtbmaljhnldepoaaDoor

/-
  PLAIN LAWS: two results, the first in memory.
-/
namespace Go.Proofs.YtbmaljhnldepoaaDoor
open Go Go.RowKit Go.BigFrame

theorem loadVar_at {P : Program} {ty : TypeId} {W : World} {b n : Nat} {f : Nat → Value} (hg : At W b n f) (hT : RowT P ty n) : (loadVar ty ⟨b, 0, none⟩).run P W = .ok (.agg (arr n f)) W := by
  obtain ⟨⟨d, hu, hd⟩, hm⟩ := hT
  obtain ⟨t, hg⟩ := hg
  exact run_loadVar_row W b t ty (arr n f) (0, 0) d hg hu (by cases d <;> simp_all [TypeDesc.isRow]) (by rw [hm, arr_size])
/-- Two results, the first in memory. -/
theorem results_at2 {P : Program} {fn : Func} {p q : Tmp} {ty : TypeId} (h : fn.results = #[.cell p ty, .tmp q]) (tmps : Array Value) {W : World} {b n : Nat} {f : Nat → Value}
    (hp : tmps.getD p undef = .pointer (some ⟨b, 0, none⟩)) (hg : At W b n f) (hT : RowT P ty n) (v : Value) (hq : tmps.getD q undef = v) :
    (results fn tmps).run P W = .ok (.tuple #[.agg (arr n f), v]) W := by
  rw [results_cell_tmp h, hp]
  have : (asAddr (.pointer (some ⟨b, 0, none⟩))).run P W = .ok ⟨b, 0, none⟩ W := rfl
  rw [this]
  simp only [Result.andThen_ok, loadVar_at hg hT, hq]

end Go.Proofs.YtbmaljhnldepoaaDoor

