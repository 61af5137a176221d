/-
  spec.TieGoat and impl.TieGoat by contracts; laws.FnExactTieGoat returns true.
-/
import Derived.Test.YtjfmhnbbdkejeaaDoorCheckGoats
import Derived.Test.YtjfmhnbbdkejeaaDoorGoat0
import Derived.Test.YtjfmhnbbdkejeaaDoorResults
import Derived.Test.YtjfmhnbbdkejeaaDoorNeq
import Derived.Test.YtjfmhnbbdkejeaaDoorUpTo
import Derived.Test.YtjfmhnbbdkejeaaDoorMix
namespace Go.Proofs.YtjfmhnbbdkejeaaDoor
open Go Go.RowKit Go.Shelf Go.BigFrame

/-- A goat tied where it stands. -/
def tiedG (h : Nat → Int) (r : Int) : Nat → Int := fun k => if k = 2 then h 0 else if k = 3 then h 1 else if k = 4 then r else h k
def tieOk (g h : Nat → Int) (r : Int) : Bool := okB g && goatB g h && inB 0 200 r
def tieC (g h : Nat → Int) (r : Int) : Int := if okB g && goatB g h then (if inB 0 200 r then 0 else 2) else 1
def tieG (g h : Nat → Int) (r : Int) : Nat → Int := if tieOk g h r then tiedG h r else gz
theorem tie_bad {g h : Nat → Int} {r : Int} (e : (okB g && goatB g h) = false) : tieG g h r = gz ∧ tieC g h r = 1 := by simp [tieG, tieC, tieOk, e]
theorem tie_range {g h : Nat → Int} {r : Int} (e : (okB g && goatB g h) = true) (f : inB 0 200 r = false) : tieG g h r = gz ∧ tieC g h r = 2 := by simp [tieG, tieC, tieOk, e, f]
theorem tie_ok {g h : Nat → Int} {r : Int} (e : (okB g && goatB g h) = true) (f : inB 0 200 r = true) : tieG g h r = tiedG h r ∧ tieC g h r = 0 := by simp [tieG, tieC, tieOk, e, f]
theorem ret_goat {g g' : Nat → Int} {c c' : Int} (h : g' = g) (h' : c' = c) : Ending.returned (.tuple #[.agg (arr 7 (gt g)), .int .i64 c]) = .returned (goatR g' c') := by rw [h, h', goatR_eq]
theorem lay_tied (z z' : Nat → Value) (h : Nat → Int) (r : Int) (hz : ∀ k, k < 7 → z' k = upd (lay (gt h) 2 2 fun k => gt h k) 4 (.int .i16 r) k) : ∀ k, k < 7 → lay z 0 7 z' k = gt (tiedG h r) k := fun k hk => by
  simp only [lay, Nat.sub_zero]
  rw [if_pos ⟨by omega, by omega⟩, hz k hk]
  rcases (show k = 0 ∨ k = 1 ∨ k = 2 ∨ k = 3 ∨ k = 4 ∨ k = 5 ∨ k = 6 by omega) with rfl | rfl | rfl | rfl | rfl | rfl | rfl <;> rfl

theorem one_goat {g h : Nat → Int} : goatsB g 1 (fun _ => h) = (okB g && goatB g h) := by simp [goatsB, List.range_succ]
theorem gts_one (h : Nat → Int) : ∀ k, k < 1 * 7 → gts (fun _ => h) k = gt h k := fun k hk => by
  have := gts_row (fun _ => h) 0 k (by omega)
  simpa using this

theorem at_one {W : World} {b : Nat} {h : Nat → Int} (hA : At W b 7 (fun k => gt h (0 + k))) : At W b (1 * 7) (gts fun _ => h) := by
  have e : At W b (1 * 7) (fun k => gt h (0 + k)) := hA
  exact e.congr fun k hk => by rw [Nat.zero_add]; exact (gts_one h k hk).symm
set_option maxRecDepth 100000 in
set_option maxHeartbeats 1000000 in
theorem l02One_any (g : Nat → Int) (hg : Fits g) (bp : Nat) (h : Nat → Int) (hF : FitsG h) (b : Nat) (w : World) (hA : At w bp 122 (pas g)) (hB : At w b 7 (gt h)) (hne : bp ≠ b) :
    Calls Tryd.prog 45 #[.pointer (some ⟨bp, 0, none⟩), .pointer (some ⟨b, 0, none⟩)] w fun e w' => e = .returned (.int .i64 (if okB g && goatB g h then 0 else 1)) ∧ Below w.heap.size w w' := by
  have hM : Mem w [(bp, 122, pas g), (b, 7, gt h)] w := ((Mem.nil w).old hA (fun i p h => by simp at h)).old hB (fun i p h => by
    match i, h with
    | 0, h => simp at h; rw [← h]; exact hne
    | _ + 1, h => simp at h)
  have HF := Lib.hid hF
  clear hF hA hB
  cases ho : okB g
  · have Ho := Lib.hid ho
    clear ho
    go_enter Tryd.func45, Tryd.ntmps45
    go_wp2_with (first | (go_at_call 70; (with_reducible refine (l01Ok_any g hg _ _ (hM.ats 0 _ _ _ rfl)).mono ?_); rintro e W' ⟨rfl, hb'⟩; rw [Ho.out]; have hM' := hM.call hb'; clear hM hb'; have hM := hM'; clear hM'))
    go_ret
    exact ⟨rfl, hM.below⟩
  have Ho := Lib.hid ho
  clear ho
  cases hi : goatB g h
  all_goals
    have Hi := Lib.hid hi
    clear hi
    go_enter Tryd.func45, Tryd.ntmps45
    go_wp2_with (first | (go_at_call 70; (with_reducible refine (l01Ok_any g hg _ _ (hM.ats 0 _ _ _ rfl)).mono ?_); rintro e W' ⟨rfl, hb'⟩; rw [Ho.out]; have hM' := hM.call hb'; clear hM hb'; have hM := hM'; clear hM') | (go_at_call 86; (with_reducible refine (l02Goat_any g hg bp h HF.out b 7 0 (gt h) (fun j _ => by rw [Nat.zero_add]) (by omega) _ (hM.ats 0 _ _ _ rfl) (hM.ats 1 _ _ _ rfl) hne).mono ?_); rintro e W' ⟨rfl, hb'⟩; rw [Hi.out]; have hM' := hM.call hb'; clear hM hb'; have hM := hM'; clear hM'))
    go_ret
    exact ⟨rfl, hM.below⟩

set_option maxRecDepth 100000 in
set_option maxHeartbeats 1000000 in
theorem specTieGoat_any (g : Nat → Int) (hg : Fits g) (h : Nat → Int) (hF : FitsG h) (r : Int) (w : World) :
    Calls Tryd.prog 13 #[.agg (arr 122 (pas g)), .agg (arr 7 (gt h)), .int .i64 r] w fun e w' => e = .returned (goatR (tieG g h r) (tieC g h r)) ∧ Below w.heap.size w w' := by
  have hM := Mem.nil w
  have HF := Lib.hid hF
  clear hF
  have tk_b1 : True := trivial; have tk_b2 : True := trivial; have tk_b3 : True := trivial; have tk_q1 : True := trivial; have tk_q2 : True := trivial; have tk_q3 : True := trivial; have tk_q4 : True := trivial; have tk_q5 : True := trivial
  cases ho : (okB g && goatB g h)
  · have Hr := Lib.hid (tie_bad (r := r) ho)
    have Hc : Hid ((if okB g && goatB g h then (0 : Int) else 1) = 1) := Lib.hid (by simp [ho])
    clear ho
    go_enter Tryd.func13, Tryd.ntmps13
    go_wp2_with (first | (go_at_call 45; (with_reducible refine (l02One_any g hg b1 h HF.out b2 _ (hM.ats 2 _ _ _ rfl) (hM.ats 1 _ _ _ rfl) (hM.apart 2 1 _ _ rfl rfl (by omega))).mono ?_); rintro e W' ⟨rfl, hb'⟩; rw [Hc.out]; have hM' := hM.call hb'; clear hM hb'; have hM := hM'; clear hM') | (have _t := tk_b1; refine wpList_box rfl _ _ rfl _ _ rfl hM ?_; intro b1 W' hb1 hM'; clear hM tk_b1; have hM := hM'; clear hM') | (have _t := tk_b2; refine wpList_box rfl _ _ rfl _ _ rfl hM ?_; intro b2 W' hb2 hM'; clear hM tk_b2; have hM := hM'; clear hM') | (have _t := tk_b3; refine wpList_zero rfl _ rfl (zeroTab _ _ _ rfl) hM ?_; intro b3 W' hb3 hM'; clear hM tk_b3; have hM := hM'; clear hM') | (refine wpList_goat0 rfl rfl ?_) | (have _t := tk_q1; (refine wpList_lay rfl _ _ _ rfl _ _ rfl _ _ rfl hM 0 rfl (by assumption) (rowTab _ _ rfl) (by omega) ?_ ?_; (first | (intro _ _; rfl) | (intro k _; exact h1 _) | (intro k _; simp only [lay, upd]; (repeat' split) <;> first | exact h1 _ | rfl)); intro W' hM'; clear hM; have hM := hM'; clear hM'; simp only [List.set] at hM); clear tk_q1))
    refine bodyPost_ret (results_at2 rfl _ rfl ((hM.ats 0 _ _ _ rfl).congr (lay_gt _ _)) (rowTab _ _ rfl) _ rfl) rfl ?_
    exact ⟨ret_goat Hr.out.1 Hr.out.2, hM.below⟩
  have Hc : Hid ((if okB g && goatB g h then (0 : Int) else 1) = 0) := Lib.hid (by simp [ho])
  cases hi : inB 0 200 r
  · have Hr := Lib.hid (tie_range ho hi)
    have Hi := Lib.hid hi
    clear ho hi
    go_enter Tryd.func13, Tryd.ntmps13
    go_wp2_with (first | (go_at_call 45; (with_reducible refine (l02One_any g hg b1 h HF.out b2 _ (hM.ats 2 _ _ _ rfl) (hM.ats 1 _ _ _ rfl) (hM.apart 2 1 _ _ rfl rfl (by omega))).mono ?_); rintro e W' ⟨rfl, hb'⟩; rw [Hc.out]; have hM' := hM.call hb'; clear hM hb'; have hM := hM'; clear hM') | (go_at_call 46; (with_reducible refine (l00In_any r _ _ _).mono ?_); rintro e W' ⟨rfl, hb'⟩; rw [Hi.out]; have hM' := hM.call hb'; clear hM hb'; have hM := hM'; clear hM') | (have _t := tk_b1; refine wpList_box rfl _ _ rfl _ _ rfl hM ?_; intro b1 W' hb1 hM'; clear hM tk_b1; have hM := hM'; clear hM') | (have _t := tk_b2; refine wpList_box rfl _ _ rfl _ _ rfl hM ?_; intro b2 W' hb2 hM'; clear hM tk_b2; have hM := hM'; clear hM') | (have _t := tk_b3; refine wpList_zero rfl _ rfl (zeroTab _ _ _ rfl) hM ?_; intro b3 W' hb3 hM'; clear hM tk_b3; have hM := hM'; clear hM') | (refine wpList_goat0 rfl rfl ?_) | (have _t := tk_q1; (refine wpList_lay rfl _ _ _ rfl _ _ rfl _ _ rfl hM 0 rfl (by assumption) (rowTab _ _ rfl) (by omega) ?_ ?_; (first | (intro _ _; rfl) | (intro k _; exact h1 _) | (intro k _; simp only [lay, upd]; (repeat' split) <;> first | exact h1 _ | rfl)); intro W' hM'; clear hM; have hM := hM'; clear hM'; simp only [List.set] at hM); clear tk_q1))
    refine bodyPost_ret (results_at2 rfl _ rfl ((hM.ats 0 _ _ _ rfl).congr (lay_gt _ _)) (rowTab _ _ rfl) _ rfl) rfl ?_
    exact ⟨ret_goat Hr.out.1 Hr.out.2, hM.below⟩
  · have Hr := Lib.hid (tie_ok ho hi)
    have Hi := Lib.hid hi
    have hr := inB_true hi
    have c1 : IntKind.i16.wrap r = r := IntWalk.i16_in _ (by omega)
    clear ho hi hr
    go_enter Tryd.func13, Tryd.ntmps13
    go_wp2_with (first | (go_at_call 45; (with_reducible refine (l02One_any g hg b1 h HF.out b2 _ (hM.ats 2 _ _ _ rfl) (hM.ats 1 _ _ _ rfl) (hM.apart 2 1 _ _ rfl rfl (by omega))).mono ?_); rintro e W' ⟨rfl, hb'⟩; rw [Hc.out]; have hM' := hM.call hb'; clear hM hb'; have hM := hM'; clear hM') | (go_at_call 46; (with_reducible refine (l00In_any r _ _ _).mono ?_); rintro e W' ⟨rfl, hb'⟩; rw [Hi.out]; have hM' := hM.call hb'; clear hM hb'; have hM := hM'; clear hM') | (have _t := tk_b1; refine wpList_box rfl _ _ rfl _ _ rfl hM ?_; intro b1 W' hb1 hM'; clear hM tk_b1; have hM := hM'; clear hM') | (have _t := tk_b2; refine wpList_box rfl _ _ rfl _ _ rfl hM ?_; intro b2 W' hb2 hM'; clear hM tk_b2; have hM := hM'; clear hM') | (have _t := tk_b3; refine wpList_zero rfl _ rfl (zeroTab _ _ _ rfl) hM ?_; intro b3 W' hb3 hM'; clear hM tk_b3; have hM := hM'; clear hM') | (have _t := tk_q1; (refine wpList_get rfl _ _ rfl _ _ rfl hM 1 rfl (rowTab _ _ rfl) (by omega) ?_); clear tk_q1) | (have _t := tk_q2; (refine wpList_lay rfl _ _ _ rfl _ _ rfl _ _ rfl hM 1 rfl (by assumption) (rowTab _ _ rfl) (by omega) ?_ ?_; (first | (intro _ _; rfl) | (intro k _; exact h1 _) | (intro k _; simp only [lay, upd]; (repeat' split) <;> first | exact h1 _ | rfl)); intro W' hM'; clear hM; have hM := hM'; clear hM'; simp only [List.set] at hM); clear tk_q2) | (have _t := tk_q3; (refine wpList_set1 rfl _ _ _ rfl _ _ rfl _ rfl ?_ hM 1 rfl (by assumption) (cellTab _ rfl) (by omega) ?_; (first | rfl | exact h1 _); intro W' hM'; clear hM; have hM := hM'; clear hM'; simp [List.set, Act.eval] at hM); clear tk_q3) | (have _t := tk_q4; (refine wpList_get rfl _ _ rfl _ _ rfl hM 1 rfl (rowTab _ _ rfl) (by omega) ?_); clear tk_q4) | (have _t := tk_q5; (refine wpList_lay rfl _ _ _ rfl _ _ rfl _ _ rfl hM 0 rfl (by assumption) (rowTab _ _ rfl) (by omega) ?_ ?_; (first | (intro _ _; rfl) | (intro k _; exact h1 _) | (intro k _; simp only [lay, upd]; (repeat' split) <;> first | exact h1 _ | rfl)); intro W' hM'; clear hM; have hM := hM'; clear hM'; simp only [List.set] at hM); clear tk_q5))
    refine bodyPost_ret (results_at2 rfl _ rfl ((hM.ats 0 _ _ _ rfl).congr (lay_tied _ _ h r (fun k _ => by simp))) (rowTab _ _ rfl) _ rfl) rfl ?_
    exact ⟨ret_goat Hr.out.1 Hr.out.2, hM.below⟩

theorem goat_info0 : (Tryd.prog.info? 36).map (fun i => (i.size, i.zero)) = some (7, some (.agg (arr 7 zG))) := by kernel_rfl

set_option maxRecDepth 100000 in
set_option maxHeartbeats 1000000 in
theorem implTieGoat_any {a : Nat → Addr} (g : Nat → Int) (hg : Fits g) (h : Nat → Int) (hF : FitsG h) (r : Int) (w : World) (hE : Errs a w) :
    Calls Tryd.prog 16 #[.agg (arr 122 (pas g)), .agg (arr 7 (gt h)), .int .i64 r] w fun e w' => e = .returned (goatR (tieG g h r) (tieC g h r)) ∧ Below w.heap.size w w' := by
  have hM := Mem.nil w
  have HF : Hid (∀ i, i < 1 → FitsG ((fun _ => h) i : Nat → Int)) := Lib.hid (fun _ _ => hF)
  have HE := Lib.hid hE
  have goat_under := Tryd.underlying135
  have Hg : Hid (∀ k, k < 1 * 7 → gt h k = gts (fun _ => h) k) := Lib.hid (fun k hk => (gts_one h k hk).symm)
  clear hF hE
  have tk_b1 : True := trivial; have tk_b2 : True := trivial; have tk_b3 : True := trivial; have tk_b4 : True := trivial; have tk_q1 : True := trivial; have tk_q2 : True := trivial; have tk_q3 : True := trivial; have tk_q4 : True := trivial; have tk_q5 : True := trivial; have tk_q6 : True := trivial; have tk_q7 : True := trivial
  cases ho : (okB g && goatB g h)
  · have Hr := Lib.hid (tie_bad (r := r) ho)
    have Ho : Hid (goatsB g 1 (fun _ => h) = false) := Lib.hid (by rw [one_goat]; exact ho)
    clear ho
    go_enter Tryd.func16, Tryd.ntmps16
    go_wp2_with (first | (go_at_call 49; (with_reducible refine (checkGoats_bad g hg b4 1 1 (fun _ => h) HF.out (by omega) _ (at_one (hM.ats 0 _ _ _ rfl)) (HE.out.below hM.below) Ho.out).mono ?_); rintro e W' ⟨rfl, hb'⟩; have hM' := hM.call hb'; clear hM hb'; have hM := hM'; clear hM') | (go_at_call 50; (with_reducible refine (codeOf_0 (HE.out.below hM.below)).mono ?_); rintro e W' ⟨rfl, rfl⟩) | (have _t := tk_b1; refine wpList_box rfl _ _ rfl _ _ rfl hM ?_; intro b1 W' hb1 hM'; clear hM tk_b1; have hM := hM'; clear hM') | (have _t := tk_b2; refine wpList_box rfl _ _ rfl _ _ rfl hM ?_; intro b2 W' hb2 hM'; clear hM tk_b2; have hM := hM'; clear hM') | (have _t := tk_b3; refine wpList_zero rfl _ rfl (zeroTab _ _ _ rfl) hM ?_; intro b3 W' hb3 hM'; clear hM tk_b3; have hM := hM'; clear hM') | (have _t := tk_q1; (refine wpList_get rfl _ _ rfl _ _ rfl hM 2 rfl (rowTab _ _ rfl) (by omega) ?_); clear tk_q1) | (have _t := tk_q2; (refine wpList_get rfl _ _ rfl _ _ rfl hM 1 rfl (rowTab _ _ rfl) (by omega) ?_); clear tk_q2) | (have _t := tk_b4; refine wpList_slice1 rfl _ _ _ rfl _ _ rfl _ goat_under goat_info0 (by omega) (by omega) hM ?_; intro b4 W' hb4 hM'; clear hM tk_b4; have hM := hM'; clear hM') | (refine wpList_goat0 rfl rfl ?_) | (have _t := tk_q3; (refine wpList_lay rfl _ _ _ rfl _ _ rfl _ _ rfl hM 1 rfl (by assumption) (rowTab _ _ rfl) (by omega) ?_ ?_; (first | (intro _ _; rfl) | (intro k _; exact h1 _) | (intro k _; simp only [lay, upd]; (repeat' split) <;> first | exact h1 _ | rfl)); intro W' hM'; clear hM; have hM := hM'; clear hM'; simp only [List.set] at hM); clear tk_q3))
    refine bodyPost_ret (results_at2 rfl _ rfl ((hM.ats 1 _ _ _ rfl).congr (lay_gt _ _)) (rowTab _ _ rfl) _ rfl) rfl ?_
    exact ⟨ret_goat Hr.out.1 Hr.out.2, hM.below⟩
  have Ho : Hid (goatsB g 1 (fun _ => h) = true) := Lib.hid (by rw [one_goat]; exact ho)
  cases hi : inB 0 200 r
  · have Hr := Lib.hid (tie_range ho hi)
    have Hi := Lib.hid hi
    clear ho hi
    go_enter Tryd.func16, Tryd.ntmps16
    go_wp2_with (first | (go_at_call 49; (with_reducible refine (checkGoats_ok g hg b4 1 1 (fun _ => h) HF.out (by omega) _ (at_one (hM.ats 0 _ _ _ rfl)) Ho.out).mono ?_); rintro e W' ⟨rfl, hb'⟩; have hM' := hM.call hb'; clear hM hb'; have hM := hM'; clear hM') | (go_at_call 51; (with_reducible refine (checkUpTo_no r 200 _ (HE.out.below hM.below) Hi.out).mono ?_); rintro e W' ⟨rfl, hb'⟩; have hM' := hM.call hb'; clear hM hb'; have hM := hM'; clear hM') | (go_at_call 50; (with_reducible refine (codeOf_1 (HE.out.below hM.below)).mono ?_); rintro e W' ⟨rfl, rfl⟩) | (have _t := tk_b1; refine wpList_box rfl _ _ rfl _ _ rfl hM ?_; intro b1 W' hb1 hM'; clear hM tk_b1; have hM := hM'; clear hM') | (have _t := tk_b2; refine wpList_box rfl _ _ rfl _ _ rfl hM ?_; intro b2 W' hb2 hM'; clear hM tk_b2; have hM := hM'; clear hM') | (have _t := tk_b3; refine wpList_zero rfl _ rfl (zeroTab _ _ _ rfl) hM ?_; intro b3 W' hb3 hM'; clear hM tk_b3; have hM := hM'; clear hM') | (have _t := tk_q1; (refine wpList_get rfl _ _ rfl _ _ rfl hM 2 rfl (rowTab _ _ rfl) (by omega) ?_); clear tk_q1) | (have _t := tk_q2; (refine wpList_get rfl _ _ rfl _ _ rfl hM 1 rfl (rowTab _ _ rfl) (by omega) ?_); clear tk_q2) | (have _t := tk_b4; refine wpList_slice1 rfl _ _ _ rfl _ _ rfl _ goat_under goat_info0 (by omega) (by omega) hM ?_; intro b4 W' hb4 hM'; clear hM tk_b4; have hM := hM'; clear hM') | (refine wpList_goat0 rfl rfl ?_) | (have _t := tk_q3; (refine wpList_lay rfl _ _ _ rfl _ _ rfl _ _ rfl hM 1 rfl (by assumption) (rowTab _ _ rfl) (by omega) ?_ ?_; (first | (intro _ _; rfl) | (intro k _; exact h1 _) | (intro k _; simp only [lay, upd]; (repeat' split) <;> first | exact h1 _ | rfl)); intro W' hM'; clear hM; have hM := hM'; clear hM'; simp only [List.set] at hM); clear tk_q3))
    refine bodyPost_ret (results_at2 rfl _ rfl ((hM.ats 1 _ _ _ rfl).congr (lay_gt _ _)) (rowTab _ _ rfl) _ rfl) rfl ?_
    exact ⟨ret_goat Hr.out.1 Hr.out.2, hM.below⟩
  · have Hr := Lib.hid (tie_ok ho hi)
    have Hi := Lib.hid hi
    have hr := inB_true hi
    have c1 : IntKind.i16.wrap r = r := IntWalk.i16_in _ (by omega)
    clear ho hi hr
    go_enter Tryd.func16, Tryd.ntmps16
    go_wp2_with (first | (go_at_call 49; (with_reducible refine (checkGoats_ok g hg b4 1 1 (fun _ => h) HF.out (by omega) _ (at_one (hM.ats 0 _ _ _ rfl)) Ho.out).mono ?_); rintro e W' ⟨rfl, hb'⟩; have hM' := hM.call hb'; clear hM hb'; have hM := hM'; clear hM') | (go_at_call 51; (with_reducible refine (checkUpTo_yes r 200 _ Hi.out).mono ?_); rintro e W' ⟨rfl, hb'⟩; have hM' := hM.call hb'; clear hM hb'; have hM := hM'; clear hM') | (have _t := tk_b1; refine wpList_box rfl _ _ rfl _ _ rfl hM ?_; intro b1 W' hb1 hM'; clear hM tk_b1; have hM := hM'; clear hM') | (have _t := tk_b2; refine wpList_box rfl _ _ rfl _ _ rfl hM ?_; intro b2 W' hb2 hM'; clear hM tk_b2; have hM := hM'; clear hM') | (have _t := tk_b3; refine wpList_zero rfl _ rfl (zeroTab _ _ _ rfl) hM ?_; intro b3 W' hb3 hM'; clear hM tk_b3; have hM := hM'; clear hM') | (have _t := tk_q1; (refine wpList_get rfl _ _ rfl _ _ rfl hM 2 rfl (rowTab _ _ rfl) (by omega) ?_); clear tk_q1) | (have _t := tk_q2; (refine wpList_get rfl _ _ rfl _ _ rfl hM 1 rfl (rowTab _ _ rfl) (by omega) ?_); clear tk_q2) | (have _t := tk_b4; refine wpList_slice1 rfl _ _ _ rfl _ _ rfl _ goat_under goat_info0 (by omega) (by omega) hM ?_; intro b4 W' hb4 hM'; clear hM tk_b4; have hM := hM'; clear hM') | (have _t := tk_q3; (refine wpList_get rfl _ _ rfl _ _ rfl hM 2 rfl (rowTab _ _ rfl) (by omega) ?_); clear tk_q3) | (have _t := tk_q4; (refine wpList_lay rfl _ _ _ rfl _ _ rfl _ _ rfl hM 2 rfl (by assumption) (rowTab _ _ rfl) (by omega) ?_ ?_; (first | (intro _ _; rfl) | (intro k _; exact h1 _) | (intro k _; simp only [lay, upd]; (repeat' split) <;> first | exact h1 _ | rfl)); intro W' hM'; clear hM; have hM := hM'; clear hM'; simp only [List.set] at hM); clear tk_q4) | (have _t := tk_q5; (refine wpList_set1 rfl _ _ _ rfl _ _ rfl _ rfl ?_ hM 2 rfl (by assumption) (cellTab _ rfl) (by omega) ?_; (first | rfl | exact h1 _); intro W' hM'; clear hM; have hM := hM'; clear hM'; simp [List.set, Act.eval] at hM); clear tk_q5) | (have _t := tk_q6; (refine wpList_get rfl _ _ rfl _ _ rfl hM 2 rfl (rowTab _ _ rfl) (by omega) ?_); clear tk_q6) | (have _t := tk_q7; (refine wpList_lay rfl _ _ _ rfl _ _ rfl _ _ rfl hM 1 rfl (by assumption) (rowTab _ _ rfl) (by omega) ?_ ?_; (first | (intro _ _; rfl) | (intro k _; exact h1 _) | (intro k _; simp only [lay, upd]; (repeat' split) <;> first | exact h1 _ | rfl)); intro W' hM'; clear hM; have hM := hM'; clear hM'; simp only [List.set] at hM); clear tk_q7))
    refine bodyPost_ret (results_at2 rfl _ rfl ((hM.ats 1 _ _ _ rfl).congr (lay_tied _ _ h r (fun k _ => by simp))) (rowTab _ _ rfl) _ rfl) rfl ?_
    exact ⟨ret_goat Hr.out.1 Hr.out.2, hM.below⟩

set_option maxRecDepth 100000 in
set_option maxHeartbeats 1000000 in
theorem lawTieGoat_any {a : Nat → Addr} (g : Nat → Int) (hg : Fits g) (h : Nat → Int) (hF : FitsG h) (r : Int) (w : World) (hE : Errs a w) :
    Calls Tryd.prog 3 #[.agg (arr 122 (pas g)), .agg (arr 7 (gt h)), .int .i64 r] w fun e w' => e = .returned (.bool true) ∧ Below w.heap.size w w' := by
  have hM := Mem.nil w
  have HE := Lib.hid hE
  have HF := Lib.hid hF
  clear hE hF
  have tk_b1 : True := trivial; have tk_b2 : True := trivial
  go_enter Tryd.func3, Tryd.ntmps3
  go_wp2_with (first | (have _t := tk_b1; refine wpList_box rfl _ _ rfl _ _ rfl hM ?_; intro b1 W' hb1 hM'; clear hM tk_b1; have hM := hM'; clear hM') | (have _t := tk_b2; refine wpList_box rfl _ _ rfl _ _ rfl hM ?_; intro b2 W' hb2 hM'; clear hM tk_b2; have hM := hM'; clear hM'))
  ((try simp only [Act.put, List.setIfInBounds_toArray, List.set_cons_succ, List.set_cons_zero]); refine region_mix (n := 9) (by kernel_rfl) (by kernel_rfl) hM ?_; clear hM; simp only [List.take_succ_cons, List.take_zero, List.drop_succ_cons, List.drop_zero]; (repeat (refine wpB_plain rfl ?_; first | (refine b_get _ _ rfl _ _ rfl 1 rfl (rowTab _ _ rfl) (by omega) ?_; (simp only [Act.put, List.setIfInBounds_toArray, List.set_cons_succ, List.set_cons_zero])) | (refine b_get _ _ rfl _ _ rfl 0 rfl (rowTab _ _ rfl) (by omega) ?_; (simp only [Act.put, List.setIfInBounds_toArray, List.set_cons_succ, List.set_cons_zero])) | (refine b_call ?_; apply Exists.intro; apply Exists.intro; apply Exists.intro; refine ⟨fun W => ?_, fun W hM => ?_, ?_⟩; (go_simp; exact ⟨rfl, rfl⟩); (exact toPasture_pas g W); (simp only [Act.put, List.setIfInBounds_toArray, List.set_cons_succ, List.set_cons_zero])) | (refine b_call ?_; apply Exists.intro; apply Exists.intro; apply Exists.intro; refine ⟨fun W => ?_, fun W hM => ?_, ?_⟩; (go_simp; exact ⟨rfl, rfl⟩); (exact toGoat_any _ h (fun _ _ => rfl) W); (simp only [Act.put, List.setIfInBounds_toArray, List.set_cons_succ, List.set_cons_zero])) | (refine b_call ?_; apply Exists.intro; apply Exists.intro; apply Exists.intro; refine ⟨fun W => ?_, fun W hM => ?_, ?_⟩; (go_simp; exact ⟨rfl, rfl⟩); (exact specTieGoat_any g hg h HF.out r W); (simp only [goatR_eq]); (simp only [Act.put, List.setIfInBounds_toArray, List.set_cons_succ, List.set_cons_zero])) | (refine b_val ?_; apply Exists.intro; refine ⟨fun W => ?_, ?_⟩; (go_simp; rfl); (simp only [Act.put, List.setIfInBounds_toArray, List.set_cons_succ, List.set_cons_zero])))); (with_reducible refine wpB_nil ?_))
  (refine thr_zero rfl _ rfl (zeroTab _ _ _ rfl) ?_; intro b3 hb3; (simp only [Act.put, List.setIfInBounds_toArray, List.set_cons_succ, List.set_cons_zero]))
  (refine thr_lay rfl _ _ _ rfl _ _ rfl _ _ rfl 0 rfl (by assumption) (rowTab _ _ rfl) (by omega) ?_ ?_; (first | (intro _ _; rfl) | (intro k _; exact h1 _)); simp only [List.set]; (simp only [Act.put, List.setIfInBounds_toArray, List.set_cons_succ, List.set_cons_zero]))
  (refine thr_val rfl ?_; apply Exists.intro; refine ⟨fun W => ?_, ?_⟩; (go_simp; rfl); (simp only [Act.put, List.setIfInBounds_toArray, List.set_cons_succ, List.set_cons_zero]))
  (refine thr_nil ?_; intro W' hM; simp only [List.cons_append, List.nil_append] at hM)
  go_wp2
  ((try simp only [Act.put, List.setIfInBounds_toArray, List.set_cons_succ, List.set_cons_zero]); refine region_mix (n := 9) (by kernel_rfl) (by kernel_rfl) hM ?_; clear hM; simp only [List.take_succ_cons, List.take_zero, List.drop_succ_cons, List.drop_zero]; (repeat (refine wpB_plain rfl ?_; first | (refine b_get _ _ rfl _ _ rfl 2 rfl (rowTab _ _ rfl) (by omega) ?_; (simp only [Act.put, List.setIfInBounds_toArray, List.set_cons_succ, List.set_cons_zero])) | (refine b_get _ _ rfl _ _ rfl 1 rfl (rowTab _ _ rfl) (by omega) ?_; (simp only [Act.put, List.setIfInBounds_toArray, List.set_cons_succ, List.set_cons_zero])) | (refine b_call ?_; apply Exists.intro; apply Exists.intro; apply Exists.intro; refine ⟨fun W => ?_, fun W hM => ?_, ?_⟩; (go_simp; exact ⟨rfl, rfl⟩); (exact toPasture_pas g W); (simp only [Act.put, List.setIfInBounds_toArray, List.set_cons_succ, List.set_cons_zero])) | (refine b_call ?_; apply Exists.intro; apply Exists.intro; apply Exists.intro; refine ⟨fun W => ?_, fun W hM => ?_, ?_⟩; (go_simp; exact ⟨rfl, rfl⟩); (exact toGoat_any _ h (fun _ _ => rfl) W); (simp only [Act.put, List.setIfInBounds_toArray, List.set_cons_succ, List.set_cons_zero])) | (refine b_call ?_; apply Exists.intro; apply Exists.intro; apply Exists.intro; refine ⟨fun W => ?_, fun W hM => ?_, ?_⟩; (go_simp; exact ⟨rfl, rfl⟩); (exact implTieGoat_any g hg h HF.out r W (HE.out.below hM.below)); (simp only [goatR_eq]); (simp only [Act.put, List.setIfInBounds_toArray, List.set_cons_succ, List.set_cons_zero])) | (refine b_val ?_; apply Exists.intro; refine ⟨fun W => ?_, ?_⟩; (go_simp; rfl); (simp only [Act.put, List.setIfInBounds_toArray, List.set_cons_succ, List.set_cons_zero])))); (with_reducible refine wpB_nil ?_))
  (refine thr_zero rfl _ rfl (zeroTab _ _ _ rfl) ?_; intro b4 hb4; (simp only [Act.put, List.setIfInBounds_toArray, List.set_cons_succ, List.set_cons_zero]))
  (refine thr_lay rfl _ _ _ rfl _ _ rfl _ _ rfl 0 rfl (by assumption) (rowTab _ _ rfl) (by omega) ?_ ?_; (first | (intro _ _; rfl) | (intro k _; exact h1 _)); simp only [List.set]; (simp only [Act.put, List.setIfInBounds_toArray, List.set_cons_succ, List.set_cons_zero]))
  (refine thr_val rfl ?_; apply Exists.intro; refine ⟨fun W => ?_, ?_⟩; (go_simp; rfl); (simp only [Act.put, List.setIfInBounds_toArray, List.set_cons_succ, List.set_cons_zero]))
  (refine thr_nil ?_; intro W' hM; simp only [List.cons_append, List.nil_append] at hM)
  go_wp2_with (first | (go_at_call 17; refine (eqG_lay _ _ _ _).mono ?_; rintro e W' ⟨rfl, hb'⟩; have hM' := hM.call hb'; clear hM hb'; have hM := hM'; clear hM') | (refine wpList_get rfl _ _ rfl _ _ rfl hM 0 rfl (rowTab _ _ rfl) (by omega) ?_) | (refine wpList_get rfl _ _ rfl _ _ rfl hM 1 rfl (rowTab _ _ rfl) (by omega) ?_))
  go_ret
  exact ⟨rfl, hM.below⟩
end Go.Proofs.YtjfmhnbbdkejeaaDoor
