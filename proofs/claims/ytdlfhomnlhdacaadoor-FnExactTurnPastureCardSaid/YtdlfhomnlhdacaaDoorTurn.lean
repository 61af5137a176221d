/-
  impl.TurnPasture by contract.
-/
import Derived.Test.YtdlfhomnlhdacaaDoorMake
namespace Go.Proofs.YtdlfhomnlhdacaaDoor
open Go Go.RowKit Go.Shelf Go.BigFrame

def turV (g : Nat → Int) (W H : Nat) (u v : Nat) : Int := g (2 + (H - 1 - u) * 10 + v)
def turE (g : Nat → Int) (W H : Nat) (u v : Nat) : Bool := fencedB g 0 ((v : Nat) : Int) (((H - 1 - u) : Nat) : Int)
def turF (g : Nat → Int) (W H : Nat) (u v : Nat) : Bool := fencedB g 1 ((v : Nat) : Int) (((H - 1 - u) : Nat) : Int)
/-- The pasture when some cells are done. -/
def turT (g : Nat → Int) (W H : Nat) (l : List (Nat × Nat)) : Nat → Int := tkS H W (turV g W H) (turE g W H) (turF g W H) l
/-- What TurnPasture answers. -/
def turG (g : Nat → Int) : Nat → Int := if okB g then turT g (g 0).toNat (g 1).toNat (upto ((g 1).toNat) (((g 1).toNat) * ((g 0).toNat))) else g0
def turC (g : Nat → Int) : Int := if okB g then 0 else 1
theorem tur_no {g : Nat → Int} (h : okB g = false) : turG g = g0 ∧ turC g = 1 := by simp [turG, turC, h]
theorem tur_ok {g : Nat → Int} {W H : Nat} (h : okB g = true) (h0 : g 0 = W) (h1 : g 1 = H) : turG g = turT g W H (upto H (H * W)) ∧ turC g = 0 := by simp [turG, turC, h, h0, h1]

set_option maxRecDepth 100000 in
set_option maxHeartbeats 2000000 in
theorem implTurn_any {a : Nat → Addr} (g : Nat → Int) (hg : Fits g) (w : World) (hE : Errs a w) :
    Calls Tryd.prog 40 #[.agg (arr 122 (pas g))] w fun e w' => e = .returned (pasR (turG g) (turC g)) ∧ Below w.heap.size w w' := by
  have hM := Mem.nil w
  have HE := Lib.hid hE
  clear hE
  cases ho : okB g
  · have Hr := Lib.hid (tur_no ho)
    have Ho : Hid (validB g = false) := Lib.hid (by rw [← okB_eq]; exact ho)
    clear ho
    have tk_b1 : True := trivial; have tk_b2 : True := trivial; have tk_q1 : True := trivial; have tk_q2 : True := trivial
    go_enter Tryd.func40, Tryd.ntmps40
    go_wp2_with (first | (go_at_call 60; refine (checkCells_bad g hg _ _ (HE.out.below hM.below) Ho.out).mono ?_; rintro e W' ⟨rfl, hb'⟩; have hM' := hM.call hb'; clear hM hb'; have hM := hM'; clear hM') | (go_at_call 53; (with_reducible refine (codeOf_0 (HE.out.below hM.below)).mono ?_); rintro e W' ⟨rfl, rfl⟩) | (have _t := tk_b1; refine wpList_box rfl _ _ rfl _ _ rfl hM ?_; intro b1 W' hb1 hM'; clear hM tk_b1; have hM := hM'; clear hM') | (have _t := tk_b2; refine wpList_zero rfl _ rfl (zeroTab _ _ _ rfl) hM ?_; intro b2 W' hb2 hM'; clear hM tk_b2; have hM := hM'; clear hM') | (have _t := tk_q1; (refine wpList_get rfl _ _ rfl _ _ rfl hM 1 rfl (rowTab _ _ rfl) (by omega) ?_); clear tk_q1) | (have _t := tk_q2; (refine wpList_lay rfl _ _ _ rfl _ _ rfl _ _ rfl hM 0 rfl (by assumption) (rowTab _ _ rfl) (by omega) ?_ ?_; (first | (intro _ _; rfl) | (intro k _; exact h1 _) | (intro k _; simp only [lay, upd]; (repeat' split) <;> first | exact h1 _ | rfl)); intro W' hM'; clear hM; have hM := hM'; clear hM'; simp only [List.set] at hM); clear tk_q2))
    refine bodyPost_ret (results_at2 rfl _ rfl ((hM.ats 0 _ _ _ rfl).congr (lay_zP _)) (rowTab _ _ rfl) _ rfl) rfl ?_
    exact ⟨ret_pas (by rw [Hr.out.1]) Hr.out.2.symm, hM.below⟩
  obtain ⟨W, H, h0, h1, hW, hH⟩ := ok_sizes ho
  have Hr := Lib.hid (tur_ok ho h0 h1)
  have Ho : Hid (validB g = true) := Lib.hid (by rw [← okB_eq]; exact ho)
  have Hk := Lib.hid ho
  have e0 : pas g 0 = .int .i8 (W : Int) := by rw [← h0]; rfl
  have e1 : pas g 1 = .int .i8 (H : Int) := by rw [← h1]; rfl
  have hg0 : turT g W H [] 0 = H := rfl
  have hg1 : turT g W H [] 1 = W := rfl
  have HW := Lib.hid hW
  have HH := Lib.hid hH
  clear ho
  refine (callsIn_wide (n := 3)).1 ?_
  refine callsIn_of_wp_marks Tryd.func40 rfl trivial ?_ rfl
  simp only [Tryd.ntmps40, List.size_toArray, List.length_cons, List.length_nil, Nat.reduceAdd, Nat.reduceSub, Array.replicate_succ, Array.replicate_zero, List.push_toArray, List.append_toArray, List.nil_append, List.cons_append]
  refine wpIn_wide.2 ?_
  have tk_b1 : True := trivial; have tk_b2 : True := trivial; have tk_b3 : True := trivial; have tk_q1 : True := trivial; have tk_q2 : True := trivial; have tk_q3 : True := trivial; have tk_q4 : True := trivial; have tk_q5 : True := trivial
  go_wp2_with (first | (go_at_call 60; refine (checkCells_nil g hg _ Ho.out).mono ?_; rintro e W' ⟨rfl, hb'⟩; have hM' := hM.call hb'; clear hM hb'; have hM := hM'; clear hM') | (have _t := tk_b1; refine wpList_box rfl _ _ rfl _ _ rfl hM ?_; intro b1 W' hb1 hM'; clear hM tk_b1; have hM := hM'; clear hM') | (have _t := tk_b2; refine wpList_zero rfl _ rfl (zeroTab _ _ _ rfl) hM ?_; intro b2 W' hb2 hM'; clear hM tk_b2; have hM := hM'; clear hM') | (have _t := tk_q1; (refine wpList_get rfl _ _ rfl _ _ rfl hM 1 rfl (rowTab _ _ rfl) (by omega) ?_); clear tk_q1) | (have _t := tk_q2; (refine wpList_get1 rfl _ _ rfl _ _ rfl hM 1 rfl (cellTab _ rfl) (by omega) _ e1 ?_); clear tk_q2) | (have _t := tk_q3; (refine wpList_get1 rfl _ _ rfl _ _ rfl hM 1 rfl (cellTab _ rfl) (by omega) _ e0 ?_); clear tk_q3) | (refine wpList_buildS rfl _ _ rfl _ _ rfl rfl ?_) | (have _t := tk_b3; refine wpList_zero rfl _ rfl (zeroTab _ _ _ rfl) hM ?_; intro b3 W' hb3 hM'; clear hM tk_b3; have hM := hM'; clear hM') | (have _t := tk_q4; (refine wpList_lay rfl _ _ _ rfl _ _ rfl _ _ rfl hM 0 rfl (by assumption) (rowTab _ _ rfl) (by omega) ?_ ?_; (first | (intro _ _; rfl) | (intro k _; exact h1 _) | (intro k _; simp only [lay, upd]; (repeat' split) <;> first | exact h1 _ | rfl)); intro W' hM'; clear hM; have hM := hM'; clear hM'; simp only [List.set] at hM); clear tk_q4) | (have _t := tk_q5; (refine wpList_get rfl _ _ rfl _ _ rfl hM 0 rfl (rowTab _ _ rfl) (by omega) ?_); clear tk_q5))
  have hl : (arr 122 fun k => lay zP 0 122 (pas (whS H W)) k) = arr 122 (pas (turT g W H [])) := arr_congr fun k hk => by rw [lay_pas _ _ k hk]; exact congrArg (fun G => pas G k) (tkS_nil _ _ _ _ _)
  rw [hl]
  clear hl
  refine (cells_any (turT g W H []) _).mono ?_
  rintro e W1 ⟨bp, rfl, hbp, hAp, hcb⟩
  have hM1 := hM.re 0 rfl (pas (turT g W H [])) (fun k hk => by rw [lay_pas _ _ k hk]; exact congrArg (fun G => pas G k) (tkS_nil _ _ _ _ _))
  have hM2 := Mem.fresh hM1 hcb hAp hbp
  simp only [List.set_cons_zero, List.cons_append, List.nil_append] at hM2
  clear hM hM1 hcb hbp
  go_wp2
  refine (wpIn_wide (n := 3)).1 ?_
  refine range_spots (α := Cell H W) (px := fun c => (c.1.1 : Int)) (py := fun c => (c.1.2 : Int)) (ks := [b3, b2, b1, bp]) (gf := 88) (lb := #[.pointer (some ⟨bp, 0, none⟩)])
    (fun pre => [(b3, 122, pas (turT g W H (pre.map (·.1)))), (b2, 122, zP), (b1, 122, pas g), (bp, 122, pas (turT g W H []))])
    rfl (enters_of Tryd.func88 (by kernel_rfl) rfl) (cells_stops Fence.wide 2 trivial rfl (by omega) bp H W HH.out.2 HW.out.2 _ hg0 hg1 W1 hAp) kpP_t (fun X l o o' h ho => kpP_b X l o o' h ho)
    (fun _ => rfl) (fun _ _ _ _ _ _ _ h2 _ => h2.ats 4 _ _ _ rfl) rfl rfl rfl rfl rfl rfl (by decide) (by simp) (by simp) hM2 ?body ?done
  case body =>
    intro l pre x bx X hbx hM hlen
    obtain ⟨⟨u, v⟩, hu, hv⟩ := x
    simp only at hu hv hM
    obtain ⟨z, hz⟩ : ∃ z : Nat, z = H - 1 - u := ⟨_, rfl⟩
    have hw := HW.out
    have hh := HH.out
    have c1 : IntKind.i8.wrap ((H : Int) - 1) = (H : Int) - 1 := IntWalk.i8_in _ (by omega)
    have c2 : IntKind.i8.wrap ((H : Int) - 1 - u) = (z : Int) := by rw [show (H : Int) - 1 - u = z by omega]; exact IntWalk.i8_in _ (by omega)
    have hsp : #[Value.int .i8 (v : Int), Value.int .i8 (z : Int)] = arr 2 (sp v z) := rfl
    have s0 : sp (u : Int) (v : Int) 0 = .int .i8 (u : Int) := rfl
    have s1 : sp (u : Int) (v : Int) 1 = .int .i8 (v : Int) := rfl
    have hf1 := fun X => isFenced_any g hg Hk.out 0 (by omega) (v : Int) (z : Int) (by omega) (by omega) X
    have hf2 := fun X => isFenced_any g hg Hk.out 1 (by omega) (v : Int) (z : Int) (by omega) (by omega) X
    have Hf1 := Lib.hid hf1
    have Hf2 := Lib.hid hf2
    have b_u : u ≤ 9 := by omega
    have b_v : v ≤ 9 := by omega
    have b_z : z ≤ 9 := by omega
    have Hz := Lib.hid hz
    clear hM2 hf1 hf2 hw hh hz
    refine wpIn_block (wpIn_seq (region_round (fun ⟨_, _, h⟩ => h) rfl ?_))
    have tk_b7 : True := trivial; have tk_r1 : True := trivial; have tk_r2 : True := trivial; have tk_r3 : True := trivial; have tk_r4 : True := trivial; have tk_r5 : True := trivial; have tk_r6 : True := trivial; have tk_r7 : True := trivial; have tk_r8 : True := trivial; have tk_r9 : True := trivial
    go_wp2_with (first | (have _t := tk_r1; (refine wpList_get1 rfl _ _ rfl _ _ rfl hM 0 rfl (cellTab _ rfl) (by omega) _ s1 ?_); clear tk_r1) | (have _t := tk_r2; (refine wpList_get1 rfl _ _ rfl _ _ rfl hM 3 rfl (cellTab _ rfl) (by omega) _ e1 ?_); clear tk_r2) | (have _t := tk_r3; (refine wpList_get1 rfl _ _ rfl _ _ rfl hM 0 rfl (cellTab _ rfl) (by omega) _ s0 ?_); clear tk_r3) | (have _t := tk_b7; refine wpList_zero rfl _ rfl (zeroTab _ _ _ rfl) hM ?_; intro b7 W' hb7 hM'; clear hM tk_b7; have hM := hM'; clear hM') | (have _t := tk_r4; (refine wpList_lay rfl _ _ _ rfl _ _ rfl _ _ rfl hM 0 rfl (by assumption) (rowTab _ _ rfl) (by omega) ?_ ?_; (first | (intro _ _; rfl) | (intro k _; exact h1 _) | (intro k _; simp only [lay, upd]; (repeat' split) <;> first | exact h1 _ | rfl)); intro W' hM'; clear hM; have hM := hM'; clear hM'; simp only [List.set] at hM); clear tk_r4))
    refine region_round (fun ⟨_, _, h⟩ => h) rfl ?_
    go_wp2_with (first | (go_at_call 79; (with_reducible refine (takeCell_of (turT g W H (pre.map (·.1))) g u v v z b_u b_v (by omega) (by omega) 0 1 _ _ _ (fun k hk => lay_sp _ _ _ k hk) Hf1.out Hf2.out _).mono ?_); rintro e W' ⟨rfl, hb'⟩; have hM' := hM.call hb'; clear hM hb'; have hM := hM'; clear hM') | (have _t := tk_r5; (refine wpList_get rfl _ _ rfl _ _ rfl hM 2 rfl (rowTab _ _ rfl) (by omega) ?_); clear tk_r5) | (have _t := tk_r6; (refine wpList_get rfl _ _ rfl _ _ rfl hM 1 rfl (rowTab _ _ rfl) (by omega) ?_); clear tk_r6) | (have _t := tk_r7; (refine wpList_get rfl _ _ rfl _ _ rfl hM 4 rfl (rowTab _ _ rfl) (by omega) ?_); clear tk_r7) | (have _t := tk_r8; (refine wpList_get rfl _ _ rfl _ _ rfl hM 0 rfl (rowTab _ _ rfl) (by omega) ?_); clear tk_r8) | (have _t := tk_r9; (refine wpList_lay rfl _ _ _ rfl _ _ rfl _ _ rfl hM 2 rfl (by assumption) (rowTab _ _ rfl) (by omega) ?_ ?_; (first | (intro _ _; rfl) | (intro k _; exact h1 _) | (intro k _; simp only [lay, upd]; (repeat' split) <;> first | exact h1 _ | rfl)); intro W' hM'; clear hM; have hM := hM'; clear hM'; simp only [List.set] at hM); clear tk_r9))
    have hM3 := hM.re 2 rfl (pas (turT g W H ((pre ++ [(⟨(u, v), hu, hv⟩ : Cell H W)]).map (fun c => c.1)))) (fun k hk => by
      rw [lay_pas _ _ k hk, List.map_append]
      have hs := tkS_snoc H W (turV g W H) (turE g W H) (turF g W H) (pre.map (·.1)) u v (by omega) (by omega)
      have hq := Hz.out
      refine congrArg (fun G => pas G k) (Eq.trans ?_ hs)
      unfold turV turE turF
      rw [← hq]
      rfl)
    simp only [List.set] at hM3
    show Mem _ _ _
    exact hM3.drop
  case done =>
    rename_i K7 hK7
    intro D xs X hD hS hM hK
    have hsz : w.heap.size ≤ W1.heap.size := hM2.size
    clear hM2
    rw [hS] at hM
    have hM' : Mem (Base.round w W1.heap.size X) _ X := hM.base ⟨hM.below, KeepsFrom.refl _ _⟩
    clear hM
    have hM := hM'
    clear hM'
    show K7 _ _
    refine hK7 _ _ ?_
    dsimp only
    have tk_q1 : True := trivial; have tk_q2 : True := trivial
    go_wp2_with (first | (have _t := tk_q1; (refine wpList_get rfl _ _ rfl _ _ rfl hM 0 rfl (rowTab _ _ rfl) (by omega) ?_); clear tk_q1) | (have _t := tk_q2; (refine wpList_lay rfl _ _ _ rfl _ _ rfl _ _ rfl hM 1 rfl (by assumption) (rowTab _ _ rfl) (by omega) ?_ ?_; (first | (intro _ _; rfl) | (intro k _; exact h1 _) | (intro k _; simp only [lay, upd]; (repeat' split) <;> first | exact h1 _ | rfl)); intro W' hM'; clear hM; have hM := hM'; clear hM'; simp only [List.set] at hM); clear tk_q2))
    have hK' : W'.heap[D]? = some (.deferred (some [])) := hM.good.2.same D _ hD hK rfl
    refine leave_marks hK' _ (results_at2 rfl _ rfl (at_mark ((hM.ats 1 _ _ _ rfl).congr (lay_pas0 _ _)) hK') (rowTab _ _ rfl) _ rfl) ?_
    exact ⟨ret_pas (by rw [Hr.out.1]) Hr.out.2.symm, below_mark hM.good.1 (Nat.le_trans hsz hD)⟩
end Go.Proofs.YtdlfhomnlhdacaaDoor
