/-
  Several texts in one: PickO, HerdEq, Int64L.
-/
import Derived.Test.YthodkbmenndnoaaDoorP19
import Derived.Test.YthodkbmenndnoaaDoorP9
import Derived.Test.YthodkbmenndnoaaDoorP5
import Derived.Test.YthodkbmenndnoaaDoorP4
/-
  spec.PickHerd at what it grants.
-/
namespace Go.Proofs.YthodkbmenndnoaaDoor
open Go Go.RowKit Go.BigFrame

theorem pkF_put {d : Hd} {ys : Nat → Int} {i k y z : Nat} {G : Nat → Value} (hk : k < i) (hi : i < 14) (hy : (ys i).toNat = y) (hz : (ys k).toNat = z) (hsy : foe d y z = foe d z y) (hG : ∀ j, j < i + 1 → G j = .int .u16 ((pkF d ys i k j : Nat) : Int)) :
    ∀ j, j < i + 1 → put2 G i k (putB (pkF d ys i k i) k (foe d y z)) (putB (pkF d ys i k k) i (foe d y z)) j = .int .u16 ((pkF d ys i (k + 1) j : Nat) : Int) := fun j hj => by
  subst hy hz
  rw [pkF_step hk hi hsy j (by omega)]
  unfold put2
  by_cases e1 : j = k
  · subst e1
    rw [if_pos rfl, if_neg (by omega), if_pos rfl]
  · rw [if_neg e1]
    by_cases e2 : j = i
    · subst e2
      rw [if_pos rfl, if_pos rfl]
    · rw [if_neg e2, if_neg e2, if_neg e1]
      exact hG j hj
def PkAcc (d : Hd) (ys : Nat → Int) (R1 R2 : Nat → Value) (w : World) (o : Nat) (K : Blocks) (i : Nat) (W : World) : Prop :=
  (i = 0 ∧ Mem w ((o, 3, h3 (.slice none 0 0) (.slice none 0 0) (.slice none 0 0)) :: K) W) ∨ (0 < i ∧ JnAcc R1 R2 (fun j => .int .u16 ((pkU d ys j i : Nat) : Int)) w o K i W)
set_option maxRecDepth 100000 in
set_option maxHeartbeats 8000000 in
theorem specPickHerd_ok (d : Hd) (b1 b2 b3 : Nat) (hd : FitsH d) (bg n : Nat) (ys : Nat → Int) (hn : n ≤ 1048576) (hc : pkC d n ys = 0) (w : World) (hM0 : Mem w (hdB d b1 b2 b3) w) (hG : At w bg n (vInt64S ys)) :
    Calls Tryd.prog 33 #[.agg (arr 3 (hdV d b1 b2 b3)), .slice (some ⟨bg, 0, none⟩) n n] w (GivesH (pkN d n ys) (vStringS (pkD d n ys).ss) (vInt16S (pkD d n ys).es) (vUint16S (pkD d n ys).fs) (pkC d n ys) w) := by
  have hM := Mem.nil w
  have H0 := Lib.hid hM0
  have HGA := Lib.hid hG
  have HG : Hid (IntsAt w (some ⟨bg, 0, none⟩) n ys) := Lib.hid (.inr ⟨bg, n, vInt64S ys, rfl, Nat.le_refl _, fun _ _ => rfl, hG⟩)
  have HAC := Lib.hid (fun (bh : Nat) (W : World) hB hI => l06Asked_any d bh b1 b2 b3 hd (some ⟨bg, 0, none⟩) n n ys hn W hB hI)
  obtain ⟨hOk, hys, hdst, hn14, ha⟩ := pk_0 hc
  have HE1 := Lib.hid (hM0.ats 0 _ _ _ rfl)
  have HE2 : Hid (At w b2 d.n1 (vInt16S d.es)) := Lib.hid (by have := hM0.ats 1 _ _ _ rfl; rwa [hOk.l2] at this)
  have HE3 := Lib.hid (hM0.ats 2 _ _ _ rfl)
  have q1 : hdV d b1 b2 b3 0 = .slice (some ⟨b1, 0, none⟩) d.n1 d.n1 := rfl
  have q2 : hdV d b1 b2 b3 1 = .slice (some ⟨b2, 0, none⟩) d.n1 d.n1 := by have : hdV d b1 b2 b3 1 = .slice (some ⟨b2, 0, none⟩) d.n2 d.n2 := rfl; rwa [hOk.l2] at this
  have HR := Lib.hid (show pkN d n ys = n ∧ pkC d n ys = 0 from ⟨by unfold pkN; rw [if_pos hc], hc⟩)
  have HDI := Lib.hid (fun k i (hik : i < k) (hk : k < n) => (dst_iff (fun j hj => (hys j hj).1)).1 hdst k i hik hk)
  have HC := Lib.hid ha
  have HYS := Lib.hid hys
  have HARE := Lib.hid (fun (bh y z : Nat) (hy : y < d.n1) (hz : z < d.n1) (W : World) hH h3 => l06Are_at d bh b3 d.n3 d.n3 d.n3 (hdV d b1 b2 b3) (vUint16S d.fs) rfl y z (by rw [hOk.l3]; exact hy) (Nat.le_refl _) (by have := hOk.n; omega) (hd.f y (by rw [hOk.l3]; exact hy)) rfl W hH h3)
  have HSY := Lib.hid hOk.symm
  have HSF : Hid (∀ k, k < n → foe d (ys k).toNat (ys k).toNat = false) := Lib.hid (fun k hk => hOk.self _ (by have := hys k hk; omega))
  have HW1 : Hid (∀ j, vStringS (pkD d n ys).ss j = .string (d.ss (ys j).toNat) ∧ vInt16S (pkD d n ys).es j = .int .i16 (d.es (ys j).toNat)) := Lib.hid (fun _ => ⟨rfl, rfl⟩)
  have HW3 : Hid (∀ j, vUint16S (pkD d n ys).fs j = .int .u16 ((pkU d ys j n : Nat) : Int)) := Lib.hid (fun _ => rfl)
  generalize vStringS (pkD d n ys).ss = R1 at HW1 ⊢
  generalize vInt16S (pkD d n ys).es = R2 at HW1 ⊢
  generalize vUint16S (pkD d n ys).fs = R3 at HW3 ⊢
  clear hM0 hG hc hOk hys hdst ha
  have tk_x1 : True := trivial; have tk_r : True := trivial
  go_enter Tryd.func33, Tryd.ntmps33
  go_wp2_with (first | (have _t := tk_x1; refine wpList_box rfl _ _ rfl _ _ rfl hM ?_; intro x1 W' hx1 hM'; clear hM tk_x1; have hM := hM'; clear hM') | (have _t := tk_r; refine wpList_zero rfl _ rfl zeroHerd hM ?_; intro r W' hr hM'; clear hM tk_r; have hM := hM'; clear hM') | (go_at_call 62; refine (HAC.out x1 _ (H0.out.box0 hM 1 rfl hx1) (HG.out.below hM.below)).mono ?_; rintro e W' ⟨rfl, hb'⟩; rw [HC.out]; have hM' := hM.call hb'; clear hM hb'; have hM := hM'; clear hM'))
  go_loopw [7] (fun v wr => ∃ k : Nat, k ≤ n ∧ v = .int .i64 k ∧ Mem w [(r, 3, fun _ => .slice none 0 0), (x1, 3, hdV d b1 b2 b3)] wr) (fun v _ => n - (intOf v).toNat)
  case atStart => exact ⟨0, by omega, rfl, hM⟩
  case round =>
    clear hM
    obtain ⟨k, hk, rfl, hM⟩ := hrel
    by_cases hlt : k < n
    · have l2 : (k : Int) < n := by omega
      go_wp2
      go_loopw [8] (fun v wr => ∃ i : Nat, i ≤ k ∧ v = .int .i64 i ∧ Mem w [(r, 3, fun _ => .slice none 0 0), (x1, 3, hdV d b1 b2 b3)] wr) (fun v _ => k - (intOf v).toNat)
      case atStart => exact ⟨0, by omega, rfl, hM⟩
      case round =>
        clear hM
        obtain ⟨i, hi, rfl, hM⟩ := hrel
        by_cases hlt2 : i < k
        · have l3 : (i : Int) < n := by omega
          have l4 : (i : Int) < k := by omega
          have e1 : (ys k == ys i) = false := beq_eq_false_iff_ne.2 (HDI.out k i hlt2 hlt)
          go_wp2
          ((try simp only [Act.put, List.setIfInBounds_toArray, List.set_cons_succ, List.set_cons_zero]); refine wp_region_mem (by kernel_rfl) (by kernel_rfl) hM ?_; clear hM; (repeat (first | go_big_quiet_skip | (go_big_quiet_want; first | (refine quiet_old _ _ rfl _ _ rfl (cellTab _ rfl) (.int .i64 (ys k)) (fun W hM2 => (HGA.out.below hM2.below HGA.out.lt).cell (by omega)) ?_; (simp only [Act.put, List.setIfInBounds_toArray, List.set_cons_succ, List.set_cons_zero]); go_big_quiet_on) | (refine quiet_old _ _ rfl _ _ rfl (cellTab _ rfl) (.int .i64 (ys i)) (fun W hM2 => (HGA.out.below hM2.below HGA.out.lt).cell (by omega)) ?_; (simp only [Act.put, List.setIfInBounds_toArray, List.set_cons_succ, List.set_cons_zero]); go_big_quiet_on) | (refine quiet_val ?_; apply Exists.intro; refine ⟨fun W => ?_, ?_⟩; (go_simp; (try simp only [l2, l3, e1, if_true, Bool.false_eq_true, if_false]); rfl); (simp only [Act.put, List.setIfInBounds_toArray, List.set_cons_succ, List.set_cons_zero]); go_big_quiet_on)))); (with_reducible refine wpQuiet_nil ?_); intro W' hM)
          go_wp2
          go_roundw
          case rel => exact ⟨i + 1, by omega, by go_num, hM⟩
          case measure => simp [intOf]; omega
        · obtain rfl : i = k := by omega
          go_wp2
          go_roundw
          case rel => exact ⟨i + 1, by omega, by go_num, hM⟩
          case measure => simp [intOf]; omega
    · obtain rfl : k = n := by omega
      have tk_o : True := trivial; have tk_s1 : True := trivial
      go_wp2_with (first | (have _t := tk_o; refine wpList_zero rfl _ rfl zeroHerd hM ?_; intro o W' ho hM'; clear hM tk_o; have hM := hM'; clear hM') | (refine wpList_herd0 rfl rfl ?_) | (have _t := tk_s1; refine wpList_lay rfl _ _ _ rfl _ _ rfl _ _ rfl hM 0 rfl ho (rowTab _ _ rfl) (by omega) (fun k _ => nil3_one k) ?_; intro W' hM'; have hM2 := hM'.re 0 rfl (h3 (.slice none 0 0) (.slice none 0 0) (.slice none 0 0)) (fun k hk => by simp [lay, hk, nil3]); simp only [List.set_cons_zero] at hM2; clear hM hM' tk_s1; have hM := hM2; clear hM2))
      go_loopw [10] (fun v wr => ∃ i : Nat, i ≤ k ∧ v = .int .i64 i ∧ PkAcc d ys R1 R2 w o [(r, 3, fun _ => .slice none 0 0), (x1, 3, hdV d b1 b2 b3)] i wr) (fun v _ => k - (intOf v).toNat)
      case atStart => exact ⟨0, by omega, rfl, .inl ⟨rfl, hM⟩⟩
      case round =>
        clear hM
        obtain ⟨i, hi, rfl, hL⟩ := hrel
        by_cases hlt : i < k
        · have l2 : (i : Int) < k := by omega
          have hi14 : i < 14 := by omega
          have hiM : i ≤ 1048576 := by omega
          obtain ⟨y, hy⟩ : ∃ y : Nat, ys i = y := ⟨(ys i).toNat, by have := HYS.out i hlt; omega⟩
          have hyn : y < d.n1 := by have := HYS.out i hlt; omega
          have HTY := Lib.hid (show (ys i).toNat = y by rw [hy]; rfl)
          have gy : vInt64S ys i = .int .i64 (y : Int) := congrArg (Value.int .i64) hy
          obtain ⟨sk, hsk⟩ : ∃ s, d.ss y = s := ⟨_, rfl⟩
          obtain ⟨ek, hek⟩ : ∃ s, d.es y = s := ⟨_, rfl⟩
          have s1 : vStringS d.ss y = .string sk := by rw [← hsk]; rfl
          have s2 : vInt16S d.es y = .int .i16 ek := by rw [← hek]; rfl
          have w1 : R1 i = .string sk := by rw [(HW1.out i).1, HTY.out, hsk]
          have w2 : R2 i = .int .i16 ek := by rw [(HW1.out i).2, HTY.out, hek]
          clear hy hsk hek
          rcases hL with ⟨rfl, hM⟩ | ⟨h00, y0, m0, F0, y1, m1, F1, y2, m2, F2, ⟨hb0, hb1, hb2⟩, ⟨hc0, hc1, hc2⟩, hf0', hf1', hf2', hM⟩
          · have HV0 := Lib.hid (show ∀ j, j < 1 → Value.string sk = R1 j from fun j hj => by rw [show j = 0 by omega]; exact w1.symm)
            have HV1 := Lib.hid (show ∀ j, j < 1 → Value.int .i16 ek = R2 j from fun j hj => by rw [show j = 0 by omega]; exact w2.symm)
            have HV2 : Hid (∀ j, j < 1 → (fun _ => Value.int .u16 0) j = (fun j => Value.int .u16 ((pkF d ys 0 0 j : Nat) : Int)) j) := Lib.hid (fun j hj => by rw [show j = 0 by omega]; simp only [pkF_new]; rfl)
            clear w1 w2
            go_wp2
            have hMs : Mem w [(o, 3, h3 (.slice none 0 0) (.slice none 0 0) (.slice none 0 0)), (x1, 3, hdV d b1 b2 b3), (r, 3, fun _ => .slice none 0 0)] _ := (hM.sub (fun i => [0, 2, 1].getD i 0) (fun i p h => by rcases i with _ | _ | _ | _ | _ | _ | _ | i <;> simp at h ⊢ <;> exact h) rfl)
            refine Code.wp_mono ?_ (pick16_zero sk (Base.of w) _ x1 o 0 y d.n1 d.n1 b1 d.n1 bg k k k _ _ _ R1 (.slice none 0 0) (.slice none 0 0) (.slice none 0 0) (by omega) hyn q1 (Nat.le_refl _) (Nat.le_refl _) s1 gy ho HV0.out w (fun W h => h) HE1.out HGA.out _ _ _ _ _ _ _ _ _ _ _ _ _ _ _ _ _ _ _ _ _ _ _ _ _ _ _ _ _ _ _ _ _ _ _ _ _ _ _ _ _ _ _ _ _ _ _ _ _ _ _ _ _ _ _ _ _ _ _ _ _ _ _ _ _ _ _ _ _ _ _ _ _ _ _ _ _ _ _ _ _ _ _ _ _ _ _ _ _ _ _ _ hMs)
            clear hM hMs
            rintro e' a' w' ⟨rfl, v46, v47, v48, v49, v50, v51, v52, v53, v54, v55, v56, v57, v58, g0, i0, G0, rfl, hg0, hi0, hG0, hM⟩
            have HG0 := Lib.hid hG0
            clear hG0
            go_wp2
            have hMs : Mem w [(o, 3, h3 (.slice (some ⟨g0, 0, none⟩) 1 i0) (.slice none 0 0) (.slice none 0 0)), (x1, 3, hdV d b1 b2 b3), (g0, i0 * 1, G0), (r, 3, fun _ => .slice none 0 0)] _ := (hM.sub (fun i => [1, 2, 0, 3].getD i 0) (fun i p h => by rcases i with _ | _ | _ | _ | _ | _ | _ | i <;> simp at h ⊢ <;> exact h) rfl)
            refine Code.wp_mono ?_ (pick17_zero ek (Base.of w) _ x1 o 0 y d.n1 d.n1 b2 d.n1 bg k k k _ _ _ R2 (.slice (some ⟨g0, 0, none⟩) 1 i0) (.slice none 0 0) (.slice none 0 0) (by omega) hyn q2 (Nat.le_refl _) (Nat.le_refl _) s2 gy ho HV1.out w (fun W h => h) HE2.out HGA.out _ _ _ _ _ _ _ _ _ _ _ _ _ _ _ _ _ _ _ _ _ _ _ _ _ _ _ _ _ _ _ _ _ _ _ _ _ _ _ _ _ _ _ _ _ _ _ _ _ _ _ _ _ _ _ _ _ _ _ _ _ _ _ _ _ _ _ _ _ _ _ _ _ _ _ _ _ _ _ _ _ _ _ _ _ _ _ _ _ _ _ _ hMs)
            clear hM hMs
            rintro e' a' w' ⟨rfl, v59, v60, v61, v62, v63, v64, v65, v66, v67, v68, v69, v70, v71, g1, i1, G1, rfl, hg1, hi1, hG1, hM⟩
            have HG1 := Lib.hid hG1
            clear hG1
            have hMs : Mem w [(g1, i1 * 1, G1), (o, 3, h3 (.slice (some ⟨g0, 0, none⟩) 1 i0) (.slice (some ⟨g1, 0, none⟩) 1 i1) (.slice none 0 0)), (x1, 3, hdV d b1 b2 b3), (g0, i0 * 1, G0), (r, 3, fun _ => .slice none 0 0)] _ := (hM.sub (fun i => [0, 1, 2, 3, 4].getD i 0) (fun i p h => by rcases i with _ | _ | _ | _ | _ | _ | _ | i <;> simp at h ⊢ <;> exact h) rfl)
            clear hM
            have hM := hMs
            clear hMs
            have tk_gf : True := trivial; have tk_l1 : True := trivial; have tk_p1 : True := trivial; have tk_st : True := trivial
            go_wp2_with (first | (have _t := tk_gf; refine wpList_get1 rfl _ _ rfl _ _ rfl hM 1 rfl (cellTab _ rfl) (by omega) (.slice none 0 0) rfl ?_; clear tk_gf) | (have _t := tk_l1; refine wpList_lit1 rfl _ _ _ rfl (.int .u16 0) rfl rfl _ u16_under u16_infoR hM ?_; intro l1 W' hl1 hM'; clear hM tk_l1; have hM := hM'; clear hM') | (have _t := tk_p1; refine wpList_push0 rfl _ _ _ rfl _ 1 _ _ u16_under infoUint16S rfl (by omega) rfl _ _ rfl hM (fun j => .int .u16 ((pkF d ys 0 0 j : Nat) : Int)) HV2.out ?_; intro g2 i2 G2 W' hg2 hi2 hG2 hM'; have HG2 := Lib.hid hG2; clear hM tk_p1 hG2; have hM := hM'; clear hM') | (have _t := tk_st; refine wpList_set1 rfl _ _ _ rfl _ _ rfl (.slice (some ⟨g2, 0, none⟩) 1 i2) rfl rfl hM 2 rfl ho (cellTab _ rfl) (by omega) ?_; intro W' hM'; have hM2 := hM'.re 2 rfl (h3 (.slice (some ⟨g0, 0, none⟩) 1 i0) (.slice (some ⟨g1, 0, none⟩) 1 i1) (.slice (some ⟨g2, 0, none⟩) 1 i2)) (h3_upd.2.2); simp only [List.set_cons_succ, List.set_cons_zero] at hM2; clear hM hM' tk_st; have hM := hM2; clear hM2))
            have hMs : Mem w [(g2, i2 * 1, G2), (o, 3, h3 (.slice (some ⟨g0, 0, none⟩) 1 i0) (.slice (some ⟨g1, 0, none⟩) 1 i1) (.slice (some ⟨g2, 0, none⟩) 1 i2)), (g0, i0 * 1, G0), (g1, i1 * 1, G1), (r, 3, fun _ => .slice none 0 0), (x1, 3, hdV d b1 b2 b3)] _ := (hM.sub (fun i => [0, 2, 4, 1, 5, 3].getD i 0) (fun i p h => by rcases i with _ | _ | _ | _ | _ | _ | _ | i <;> simp at h ⊢ <;> exact h) rfl)
            clear hM
            have hM := hMs
            clear hMs
            go_loopw [11] (fun v wr => ∃ q : Nat, q ≤ 0 ∧ v = .int .i64 q ∧ ∃ G, Hid (∀ j, j < 0 + 1 → G j = .int .u16 ((pkF d ys 0 q j : Nat) : Int)) ∧ Mem w [(g2, i2 * 1, G), (o, 3, h3 (.slice (some ⟨g0, 0, none⟩) 1 i0) (.slice (some ⟨g1, 0, none⟩) 1 i1) (.slice (some ⟨g2, 0, none⟩) 1 i2)), (g0, i0 * 1, G0), (g1, i1 * 1, G1), (r, 3, fun _ => .slice none 0 0), (x1, 3, hdV d b1 b2 b3)] wr) (fun v _ => 0 - (intOf v).toNat)
            case atStart => exact ⟨0, by omega, rfl, G2, Lib.hid (fun j hj => HG2.out j (by omega)), hM⟩
            case round =>
              clear hM HG2
              obtain ⟨q, hk, rfl, G, HG, hM⟩ := hrel
              by_cases hlt2 : q < 0
              · exact absurd hlt2 (by omega)
              · obtain rfl : q = 0 := by omega
                go_wp2
                go_roundw
                case rel => exact ⟨0 + 1, by omega, by go_num, .inr ⟨by omega, g0, i0, G0, g1, i1, G1, g2, i2, G, ⟨hg0, hg1, hg2⟩, ⟨by omega, by omega, by omega⟩, HG0.out, HG1.out, fun j hj => (HG.out j (by omega)).trans (by rw [pkF_end (HSF.out 0 (by omega)) (by omega)]), (hM.sub (fun i => [2, 3, 0, 1, 4, 5].getD i 0) (fun i p h => by rcases i with _ | _ | _ | _ | _ | _ | _ | i <;> simp at h ⊢ <;> exact h) rfl)⟩⟩
                case measure => simp [intOf]; omega
          · have HV0 := Lib.hid (show ∀ j, j < 1 → Value.string sk = R1 (i * 1 + j) from fun j hj => by rw [show i * 1 + j = i by omega]; exact w1.symm)
            have HV1 := Lib.hid (show ∀ j, j < 1 → Value.int .i16 ek = R2 (i * 1 + j) from fun j hj => by rw [show i * 1 + j = i by omega]; exact w2.symm)
            have HV2 : Hid (∀ j, j < 1 → (fun _ => Value.int .u16 0) j = (fun j => Value.int .u16 ((pkF d ys i 0 j : Nat) : Int)) (i * 1 + j)) := Lib.hid (fun j hj => by rw [show i * 1 + j = i by omega]; simp only [pkF_new]; rfl)
            have hf0 := Lib.hid hf0'
            have hf1 := Lib.hid hf1'
            have hf2 : Hid (∀ j, j < i * 1 → F2 j = (fun j => Value.int .u16 ((pkF d ys i 0 j : Nat) : Int)) j) := Lib.hid (fun j hj => (hf2' j hj).trans (by simp only [pkF_zero (show j < i by omega)]))
            clear hf0' hf1' hf2' w1 w2
            go_wp2
            have hMs : Mem w [(y0, m0 * 1, F0), (o, 3, h3 (.slice (some ⟨y0, 0, none⟩) i m0) (.slice (some ⟨y1, 0, none⟩) i m1) (.slice (some ⟨y2, 0, none⟩) i m2)), (x1, 3, hdV d b1 b2 b3), (y1, m1 * 1, F1), (y2, m2 * 1, F2), (r, 3, fun _ => .slice none 0 0)] _ := (hM.sub (fun i => [0, 3, 5, 1, 2, 4].getD i 0) (fun i p h => by rcases i with _ | _ | _ | _ | _ | _ | _ | i <;> simp at h ⊢ <;> exact h) rfl)
            refine Code.wp_mono ?_ (pick16_any sk (Base.of w) _ x1 o i y d.n1 d.n1 b1 d.n1 y0 m0 i bg k k k F0 _ _ _ R1 (.slice (some ⟨y0, 0, none⟩) i m0) (.slice (some ⟨y1, 0, none⟩) i m1) (.slice (some ⟨y2, 0, none⟩) i m2) hlt hyn q1 (Nat.le_refl _) (Nat.le_refl _) s1 gy hb0 ho hiM hc0 hf0.out HV0.out w (fun W h => h) HE1.out HGA.out _ _ _ _ _ _ _ _ _ _ _ _ _ _ _ _ _ _ _ _ _ _ _ _ _ _ _ _ _ _ _ _ _ _ _ _ _ _ _ _ _ _ _ _ _ _ _ _ _ _ _ _ _ _ _ _ _ _ _ _ _ _ _ _ _ _ _ _ _ _ _ _ _ _ _ _ _ _ _ _ _ _ _ _ _ _ _ _ _ _ _ _ hMs)
            clear hM hMs
            rintro e' a' w' ⟨rfl, v46, v47, v48, v49, v50, v51, v52, v53, v54, v55, v56, v57, v58, g0, i0, G0, rfl, hg0, hi0, hG0, hM⟩
            have HG0 := Lib.hid hG0
            clear hG0
            go_wp2
            have hMs : Mem w [(y1, m1 * 1, F1), (o, 3, h3 (.slice (some ⟨g0, 0, none⟩) (i + 1) i0) (.slice (some ⟨y1, 0, none⟩) i m1) (.slice (some ⟨y2, 0, none⟩) i m2)), (x1, 3, hdV d b1 b2 b3), (g0, i0 * 1, G0), (y2, m2 * 1, F2), (r, 3, fun _ => .slice none 0 0)] _ := (hM.sub (fun i => [3, 1, 2, 0, 4, 5].getD i 0) (fun i p h => by rcases i with _ | _ | _ | _ | _ | _ | _ | i <;> simp at h ⊢ <;> exact h) rfl)
            refine Code.wp_mono ?_ (pick17_any ek (Base.of w) _ x1 o i y d.n1 d.n1 b2 d.n1 y1 m1 i bg k k k F1 _ _ _ R2 (.slice (some ⟨g0, 0, none⟩) (i + 1) i0) (.slice (some ⟨y1, 0, none⟩) i m1) (.slice (some ⟨y2, 0, none⟩) i m2) hlt hyn q2 (Nat.le_refl _) (Nat.le_refl _) s2 gy hb1 ho hiM hc1 hf1.out HV1.out w (fun W h => h) HE2.out HGA.out _ _ _ _ _ _ _ _ _ _ _ _ _ _ _ _ _ _ _ _ _ _ _ _ _ _ _ _ _ _ _ _ _ _ _ _ _ _ _ _ _ _ _ _ _ _ _ _ _ _ _ _ _ _ _ _ _ _ _ _ _ _ _ _ _ _ _ _ _ _ _ _ _ _ _ _ _ _ _ _ _ _ _ _ _ _ _ _ _ _ _ _ hMs)
            clear hM hMs
            rintro e' a' w' ⟨rfl, v59, v60, v61, v62, v63, v64, v65, v66, v67, v68, v69, v70, v71, g1, i1, G1, rfl, hg1, hi1, hG1, hM⟩
            have HG1 := Lib.hid hG1
            clear hG1
            have hMs : Mem w [(y2, m2 * 1, F2), (g1, i1 * 1, G1), (o, 3, h3 (.slice (some ⟨g0, 0, none⟩) (i + 1) i0) (.slice (some ⟨g1, 0, none⟩) (i + 1) i1) (.slice (some ⟨y2, 0, none⟩) i m2)), (x1, 3, hdV d b1 b2 b3), (g0, i0 * 1, G0), (r, 3, fun _ => .slice none 0 0)] _ := (hM.sub (fun i => [4, 0, 1, 2, 3, 5].getD i 0) (fun i p h => by rcases i with _ | _ | _ | _ | _ | _ | _ | i <;> simp at h ⊢ <;> exact h) rfl)
            clear hM
            have hM := hMs
            clear hMs
            have tk_gf : True := trivial; have tk_l1 : True := trivial; have tk_p1 : True := trivial; have tk_st : True := trivial
            go_wp2_with (first | (have _t := tk_gf; refine wpList_get1 rfl _ _ rfl _ _ rfl hM 2 rfl (cellTab _ rfl) (by omega) (.slice (some ⟨y2, 0, none⟩) i m2) rfl ?_; clear tk_gf) | (have _t := tk_l1; refine wpList_lit1 rfl _ _ _ rfl (.int .u16 0) rfl rfl _ u16_under u16_infoR hM ?_; intro l1 W' hl1 hM'; clear hM tk_l1; have hM := hM'; clear hM') | (have _t := tk_p1; refine wpList_push1 rfl _ _ _ rfl _ 1 _ _ u16_under infoUint16S rfl (by omega) _ _ _ _ rfl hb2 hc2 hiM _ _ rfl cst_one hM (fun j => .int .u16 ((pkF d ys i 0 j : Nat) : Int)) hf2.out HV2.out ?_; intro g2 i2 G2 W' hg2 hi2 hG2 hM'; have HG2 := Lib.hid hG2; clear hM tk_p1 hG2; have hM := hM'; clear hM') | (have _t := tk_st; refine wpList_set1 rfl _ _ _ rfl _ _ rfl (.slice (some ⟨g2, 0, none⟩) (i + 1) i2) rfl rfl hM 2 rfl ho (cellTab _ rfl) (by omega) ?_; intro W' hM'; have hM2 := hM'.re 2 rfl (h3 (.slice (some ⟨g0, 0, none⟩) (i + 1) i0) (.slice (some ⟨g1, 0, none⟩) (i + 1) i1) (.slice (some ⟨g2, 0, none⟩) (i + 1) i2)) (h3_upd.2.2); simp only [List.set_cons_succ, List.set_cons_zero] at hM2; clear hM hM' tk_st; have hM := hM2; clear hM2))
            have hMs : Mem w [(g2, i2 * 1, G2), (o, 3, h3 (.slice (some ⟨g0, 0, none⟩) (i + 1) i0) (.slice (some ⟨g1, 0, none⟩) (i + 1) i1) (.slice (some ⟨g2, 0, none⟩) (i + 1) i2)), (g0, i0 * 1, G0), (g1, i1 * 1, G1), (r, 3, fun _ => .slice none 0 0), (x1, 3, hdV d b1 b2 b3)] _ := (hM.sub (fun i => [0, 2, 4, 1, 5, 3].getD i 0) (fun i p h => by rcases i with _ | _ | _ | _ | _ | _ | _ | i <;> simp at h ⊢ <;> exact h) rfl)
            clear hM
            have hM := hMs
            clear hMs
            go_loopw [11] (fun v wr => ∃ q : Nat, q ≤ i ∧ v = .int .i64 q ∧ ∃ G, Hid (∀ j, j < i + 1 → G j = .int .u16 ((pkF d ys i q j : Nat) : Int)) ∧ Mem w [(g2, i2 * 1, G), (o, 3, h3 (.slice (some ⟨g0, 0, none⟩) (i + 1) i0) (.slice (some ⟨g1, 0, none⟩) (i + 1) i1) (.slice (some ⟨g2, 0, none⟩) (i + 1) i2)), (g0, i0 * 1, G0), (g1, i1 * 1, G1), (r, 3, fun _ => .slice none 0 0), (x1, 3, hdV d b1 b2 b3)] wr) (fun v _ => i - (intOf v).toNat)
            case atStart => exact ⟨0, by omega, rfl, G2, Lib.hid (fun j hj => HG2.out j (by omega)), hM⟩
            case round =>
              clear hM HG2
              obtain ⟨q, hk, rfl, G, HG, hM⟩ := hrel
              by_cases hlt2 : q < i
              · have l3 : (q : Int) < i := by omega
                have l4 : (q : Int) < k := by omega
                obtain ⟨z, hz⟩ : ∃ z : Nat, ys q = z := ⟨(ys q).toNat, by have := HYS.out q (by omega); omega⟩
                have hzn : z < d.n1 := by have := HYS.out q (by omega); omega
                have gz : vInt64S ys q = .int .i64 (z : Int) := congrArg (Value.int .i64) hz
                have HP := Lib.hid (pkF_put hlt2 hi14 HTY.out (show (ys q).toNat = z by rw [hz]; rfl) (HSY.out y z hyn hzn) HG.out)
                have hs2 : pkF d ys i q i < 65536 := pkF_lt hi14 hk
                have ht2 : pkF d ys i q q < 65536 := pkF_lt hi14 hk
                go_wp2
                ((try simp only [Act.put, List.setIfInBounds_toArray, List.set_cons_succ, List.set_cons_zero]); refine region_call_mem (m := 11) rfl rfl (by kernel_rfl) (by kernel_rfl) hM ?_; clear hM; simp only [List.take_succ_cons, List.take_zero, List.drop_succ_cons, List.drop_zero]; (repeat (first | go_big_quiet_skip | (go_big_quiet_want; first | (refine quiet_old _ _ rfl _ _ rfl (cellTab _ rfl) (.int .i64 (y : Int)) (fun W hM2 => ((HGA.out.below hM2.below HGA.out.lt).cell (by omega)).trans (congrArg some gy)) ?_; (simp only [Act.put, List.setIfInBounds_toArray, List.set_cons_succ, List.set_cons_zero]); go_big_quiet_on) | (refine quiet_old _ _ rfl _ _ rfl (cellTab _ rfl) (.int .i64 (z : Int)) (fun W hM2 => ((HGA.out.below hM2.below HGA.out.lt).cell (by omega)).trans (congrArg some gz)) ?_; (simp only [Act.put, List.setIfInBounds_toArray, List.set_cons_succ, List.set_cons_zero]); go_big_quiet_on) | (refine quiet_call ?_; apply Exists.intro; apply Exists.intro; apply Exists.intro; refine ⟨fun W => ?_, fun W hM => ?_, ?_⟩; (go_simp; exact ⟨rfl, rfl⟩); (with_reducible exact HARE.out x1 y z hyn hzn W (hM.ats 5 _ _ _ rfl) (HE3.out.below hM.below HE3.out.lt)); (simp only [Act.put, List.setIfInBounds_toArray, List.set_cons_succ, List.set_cons_zero]); go_big_quiet_on) | (refine quiet_val ?_; apply Exists.intro; refine ⟨fun W => ?_, ?_⟩; (go_simp; (try simp only [l2, l4, if_true, Bool.false_eq_true, if_false]); rfl); (simp only [Act.put, List.setIfInBounds_toArray, List.set_cons_succ, List.set_cons_zero]); go_big_quiet_on)))); (with_reducible refine wpQuiet_nil ?_); intro W' hM)
                go_wp2_with (first | (go_at_call 72; refine (l06Put_any _ _ o g2 (i + 1) i2 (i2 * 1) G _ rfl hg2 (by omega) i q _ _ (foe d y z) (by omega) (by omega) (by omega) hi14 (by omega) hs2 ht2 (HG.out i (by omega)) (HG.out q (by omega)) _ hM).mono ?_; rintro e W' ⟨rfl, hM'⟩; clear hM; have hM := hM'; clear hM'))
                (refine ⟨_, hM, ?_⟩; clear hM; (try simp only [Act.put, List.setIfInBounds_toArray, List.set_cons_succ, List.set_cons_zero]); (repeat (first | go_big_quiet_skip | (go_big_quiet_want; first | (refine quiet_val ?_; apply Exists.intro; refine ⟨fun W => ?_, ?_⟩; (go_simp; rfl); (simp only [Act.put, List.setIfInBounds_toArray, List.set_cons_succ, List.set_cons_zero]); go_big_quiet_on)))); (with_reducible refine wpQuiet_nil ?_); intro W' hM)
                go_wp2
                go_roundw
                case rel => exact ⟨q + 1, by omega, by go_num, _, HP, hM⟩
                case measure => simp [intOf]; omega
              · obtain rfl : q = i := by omega
                go_wp2
                go_roundw
                case rel => exact ⟨q + 1, by omega, by go_num, .inr ⟨by omega, g0, i0, G0, g1, i1, G1, g2, i2, G, ⟨hg0, hg1, hg2⟩, ⟨by omega, by omega, by omega⟩, HG0.out, HG1.out, fun j hj => (HG.out j (by omega)).trans (by rw [pkF_end (HSF.out q (by omega)) (by omega)]), (hM.sub (fun i => [2, 3, 0, 1, 4, 5].getD i 0) (fun i p h => by rcases i with _ | _ | _ | _ | _ | _ | _ | i <;> simp at h ⊢ <;> exact h) rfl)⟩⟩
                case measure => simp [intOf]; omega
        · obtain rfl : i = k := by omega
          rcases hL with ⟨h0, hM⟩ | ⟨h00, y0, m0, F0, y1, m1, F1, y2, m2, F2, ⟨hb0, hb1, hb2⟩, ⟨hc0, hc1, hc2⟩, hf0', hf1', hf2', hM⟩
          · have H00 := Lib.hid h0
            clear h0
            have tk_go : True := trivial; have tk_s2 : True := trivial
            go_wp2_with (first | (have _t := tk_go; refine wpList_get rfl _ _ rfl _ _ rfl hM 0 rfl (rowTab _ _ rfl) (by omega) ?_; simp only [Nat.zero_add]; clear tk_go) | (have _t := tk_s2; refine wpList_lay rfl _ _ _ rfl _ _ rfl _ _ rfl hM 1 rfl (by assumption) (rowTab _ _ rfl) (by omega) (fun k _ => h3_one rfl rfl rfl k) ?_; intro W' hM'; clear hM tk_s2; have hM := hM'; clear hM'; simp only [List.set] at hM))
            have hA1 := (hM.ats 1 _ _ _ rfl).congr (g := nil3) (fun j hj => by simp [lay, hj, nil3])
            refine bodyPost_ret (results_at2 rfl _ rfl hA1 rowHerd _ rfl) rfl ?_
            rw [HR.out.1, HR.out.2, H00.out]
            exact GivesH.none hM.below rfl rfl
          · have tk_go : True := trivial; have tk_s2 : True := trivial
            go_wp2_with (first | (have _t := tk_go; refine wpList_get rfl _ _ rfl _ _ rfl hM 3 rfl (rowTab _ _ rfl) (by omega) ?_; simp only [Nat.zero_add]; clear tk_go) | (have _t := tk_s2; refine wpList_lay rfl _ _ _ rfl _ _ rfl _ _ rfl hM 4 rfl (by assumption) (rowTab _ _ rfl) (by omega) (fun k _ => h3_one rfl rfl rfl k) ?_; intro W' hM'; clear hM tk_s2; have hM := hM'; clear hM'; simp only [List.set] at hM))
            have hA1 := (hM.ats 4 _ _ _ rfl).congr (g := h3 (.slice (some ⟨y0, 0, none⟩) i m0) (.slice (some ⟨y1, 0, none⟩) i m1) (.slice (some ⟨y2, 0, none⟩) i m2)) (fun j hj => by simp [lay, hj])
            refine bodyPost_ret (results_at2 rfl _ rfl hA1 rowHerd _ rfl) rfl ?_
            rw [HR.out.1, HR.out.2]
            exact ⟨_, rfl, .inr ⟨y0, m0, m0 * 1, F0, y1, m1, m1 * 1, F1, y2, m2, m2 * 1, F2, rfl, ⟨hb0, hb1, hb2⟩, ⟨by omega, by omega, by omega⟩, ⟨fun j hj => hf0' j (by omega), fun j hj => hf1' j (by omega), fun j hj => (hf2' j (by omega)).trans (HW3.out j).symm⟩, hM.sub (fun i => i) (fun i p h => by rcases i with _ | _ | _ | i <;> simp at h ⊢ <;> exact h) rfl⟩⟩
theorem specPickHerd_any (d : Hd) (b1 b2 b3 : Nat) (hd : FitsH d) (bg n : Nat) (ys : Nat → Int) (hn : n ≤ 1048576) (w : World) (hM0 : Mem w (hdB d b1 b2 b3) w) (hG : At w bg n (vInt64S ys)) :
    Calls Tryd.prog 33 #[.agg (arr 3 (hdV d b1 b2 b3)), .slice (some ⟨bg, 0, none⟩) n n] w (GivesH (pkN d n ys) (vStringS (pkD d n ys).ss) (vInt16S (pkD d n ys).es) (vUint16S (pkD d n ys).fs) (pkC d n ys) w) := by
  by_cases hc : pkC d n ys = 0
  · exact specPickHerd_ok d b1 b2 b3 hd bg n ys hn hc w hM0 hG
  · exact specPickHerd_bad d b1 b2 b3 hd bg n ys hn hc w hM0 hG
end Go.Proofs.YthodkbmenndnoaaDoor

/-
  laws.eqHerd, markHerd, heldHerd over herds that calls gave.
-/
namespace Go.Proofs.YthodkbmenndnoaaDoor
open Go Go.RowKit Go.BigFrame

set_option maxRecDepth 100000 in
set_option maxHeartbeats 1000000 in
theorem eqHerd_list (n : Nat) (ss : Nat → ByteArray) (es fs : Nat → Int) (hn : n ≤ 1048576) (b1 c1 N1 b2 c2 N2 b3 c3 N3 e1 d1 M1 e2 d2 M2 e3 d3 M3 : Nat) (F1 F2 F3 G1 G2 G3 hv gv : Nat → Value)
    (a1 : hv 0 = .slice (some ⟨b1, 0, none⟩) n c1) (a2 : hv 1 = .slice (some ⟨b2, 0, none⟩) n c2) (a3 : hv 2 = .slice (some ⟨b3, 0, none⟩) n c3) (x1 : gv 0 = .slice (some ⟨e1, 0, none⟩) n d1) (x2 : gv 1 = .slice (some ⟨e2, 0, none⟩) n d2) (x3 : gv 2 = .slice (some ⟨e3, 0, none⟩) n d3)
    (hN : n ≤ N1 ∧ n ≤ N2 ∧ n ≤ N3) (hM' : n ≤ M1 ∧ n ≤ M2 ∧ n ≤ M3) (hF : (∀ j, j < n → F1 j = vStringS ss j) ∧ (∀ j, j < n → F2 j = vInt16S es j) ∧ ∀ j, j < n → F3 j = vUint16S fs j) (hG : (∀ j, j < n → G1 j = vStringS ss j) ∧ (∀ j, j < n → G2 j = vInt16S es j) ∧ ∀ j, j < n → G3 j = vUint16S fs j)
    (w : World) (A1 : At w b1 N1 F1) (A2 : At w b2 N2 F2) (A3 : At w b3 N3 F3) (C1 : At w e1 M1 G1) (C2 : At w e2 M2 G2) (C3 : At w e3 M3 G3) (n1 : b1 ≠ e1) (n2 : b2 ≠ e2) (n3 : b3 ≠ e3) :
    Calls Tryd.prog 19 #[.agg (arr 3 hv), .agg (arr 3 gv)] w fun e w' => e = .returned (.bool true) ∧ Below w.heap.size w w' := by
  have hM := Mem.nil w
  have HA1 := Lib.hid A1
  have HA2 := Lib.hid A2
  have HA3 := Lib.hid A3
  have HC1 := Lib.hid C1
  have HC2 := Lib.hid C2
  have HC3 := Lib.hid C3
  have HF := Lib.hid hF
  have HG := Lib.hid hG
  have HN := Lib.hid hN
  have HM := Lib.hid hM'
  have HNE := Lib.hid (And.intro n1 (And.intro n2 n3))
  clear A1 A2 A3 C1 C2 C3 hF hG hN hM' n1 n2 n3
  have tk_y1 : True := trivial; have tk_y2 : True := trivial
  go_enter Tryd.func19, Tryd.ntmps19
  go_wp2_with (first | (have _t := tk_y1; refine wpList_box rfl _ _ rfl _ _ rfl hM ?_; intro y1 W' hy1 hM'; clear hM tk_y1; have hM := hM'; clear hM') | (have _t := tk_y2; refine wpList_box rfl _ _ rfl _ _ rfl hM ?_; intro y2 W' hy2 hM'; clear hM tk_y2; have hM := hM'; clear hM') | (refine wpList_get1 rfl _ _ rfl _ _ rfl hM 1 rfl (by first | exact cellSS | exact cellES | exact cellFS) (by omega) _ a1 ?_) | (refine wpList_get1 rfl _ _ rfl _ _ rfl hM 1 rfl (by first | exact cellSS | exact cellES | exact cellFS) (by omega) _ a2 ?_) | (refine wpList_get1 rfl _ _ rfl _ _ rfl hM 1 rfl (by first | exact cellSS | exact cellES | exact cellFS) (by omega) _ a3 ?_) | (refine wpList_get1 rfl _ _ rfl _ _ rfl hM 0 rfl (by first | exact cellSS | exact cellES | exact cellFS) (by omega) _ x1 ?_) | (refine wpList_get1 rfl _ _ rfl _ _ rfl hM 0 rfl (by first | exact cellSS | exact cellES | exact cellFS) (by omega) _ x2 ?_) | (refine wpList_get1 rfl _ _ rfl _ _ rfl hM 0 rfl (by first | exact cellSS | exact cellES | exact cellFS) (by omega) _ x3 ?_) | (go_at_call 59; refine (eqStringS_list b1 e1 n c1 d1 N1 M1 F1 G1 ss HF.out.1 HG.out.1 HN.out.1 HM.out.1 hn _ (HA1.out.below hM.below HA1.out.lt) (HC1.out.below hM.below HC1.out.lt) HNE.out.1).mono ?_; rintro e W' ⟨rfl, hb'⟩; have hM' := hM.call hb'; clear hM hb'; have hM := hM'; clear hM') | (go_at_call 60; refine (eqInt16S_list b2 e2 n c2 d2 N2 M2 F2 G2 es HF.out.2.1 HG.out.2.1 HN.out.2.1 HM.out.2.1 hn _ (HA2.out.below hM.below HA2.out.lt) (HC2.out.below hM.below HC2.out.lt) HNE.out.2.1).mono ?_; rintro e W' ⟨rfl, hb'⟩; have hM' := hM.call hb'; clear hM hb'; have hM := hM'; clear hM') | (go_at_call 61; refine (eqUint16S_list b3 e3 n c3 d3 N3 M3 F3 G3 fs HF.out.2.2 HG.out.2.2 HN.out.2.2 HM.out.2.2 hn _ (HA3.out.below hM.below HA3.out.lt) (HC3.out.below hM.below HC3.out.lt) HNE.out.2.2).mono ?_; rintro e W' ⟨rfl, hb'⟩; have hM' := hM.call hb'; clear hM hb'; have hM := hM'; clear hM'))
  go_ret
  exact ⟨rfl, hM.below⟩
set_option maxRecDepth 100000 in
set_option maxHeartbeats 1000000 in
theorem eqHerd_zero (a1 a2 a3 x1 x2 x3 : Option Addr) (c1 c2 c3 d1 d2 d3 : Nat) (w : World) :
    Calls Tryd.prog 19 #[.agg (arr 3 (h3 (.slice a1 0 c1) (.slice a2 0 c2) (.slice a3 0 c3))), .agg (arr 3 (h3 (.slice x1 0 d1) (.slice x2 0 d2) (.slice x3 0 d3)))] w fun e w' => e = .returned (.bool true) ∧ Below w.heap.size w w' := by
  have hM := Mem.nil w
  have tk_y1 : True := trivial; have tk_y2 : True := trivial
  go_enter Tryd.func19, Tryd.ntmps19
  go_wp2_with (first | (have _t := tk_y1; refine wpList_box rfl _ _ rfl _ _ rfl hM ?_; intro y1 W' hy1 hM'; clear hM tk_y1; have hM := hM'; clear hM') | (have _t := tk_y2; refine wpList_box rfl _ _ rfl _ _ rfl hM ?_; intro y2 W' hy2 hM'; clear hM tk_y2; have hM := hM'; clear hM') | (refine wpList_get1 rfl _ _ rfl _ _ rfl hM 1 rfl (by first | exact cellSS | exact cellES | exact cellFS) (by omega) (.slice a1 0 c1) rfl ?_) | (refine wpList_get1 rfl _ _ rfl _ _ rfl hM 1 rfl (by first | exact cellSS | exact cellES | exact cellFS) (by omega) (.slice a2 0 c2) rfl ?_) | (refine wpList_get1 rfl _ _ rfl _ _ rfl hM 1 rfl (by first | exact cellSS | exact cellES | exact cellFS) (by omega) (.slice a3 0 c3) rfl ?_) | (refine wpList_get1 rfl _ _ rfl _ _ rfl hM 0 rfl (by first | exact cellSS | exact cellES | exact cellFS) (by omega) (.slice x1 0 d1) rfl ?_) | (refine wpList_get1 rfl _ _ rfl _ _ rfl hM 0 rfl (by first | exact cellSS | exact cellES | exact cellFS) (by omega) (.slice x2 0 d2) rfl ?_) | (refine wpList_get1 rfl _ _ rfl _ _ rfl hM 0 rfl (by first | exact cellSS | exact cellES | exact cellFS) (by omega) (.slice x3 0 d3) rfl ?_) | (go_at_call 59; refine (eqStringS_zero a1 x1 c1 d1 _).mono ?_; rintro e W' ⟨rfl, hb'⟩; have hM' := hM.call hb'; clear hM hb'; have hM := hM'; clear hM') | (go_at_call 60; refine (eqInt16S_zero a2 x2 c2 d2 _).mono ?_; rintro e W' ⟨rfl, hb'⟩; have hM' := hM.call hb'; clear hM hb'; have hM := hM'; clear hM') | (go_at_call 61; refine (eqUint16S_zero a3 x3 c3 d3 _).mono ?_; rintro e W' ⟨rfl, hb'⟩; have hM' := hM.call hb'; clear hM hb'; have hM := hM'; clear hM'))
  go_ret
  exact ⟨rfl, hM.below⟩
set_option maxRecDepth 100000 in
set_option maxHeartbeats 1000000 in
theorem markHerd_zero (a1 a2 a3 : Option Addr) (c1 c2 c3 : Nat) (w : World) :
    Calls Tryd.prog 23 #[.agg (arr 3 (h3 (.slice a1 0 c1) (.slice a2 0 c2) (.slice a3 0 c3))), .int .i64 1] w fun e w' => e = .returned (.int .i64 1) ∧ Below w.heap.size w w' := by
  have hM := Mem.nil w
  have tk_y1 : True := trivial
  go_enter Tryd.func23, Tryd.ntmps23
  go_wp2_with (first | (have _t := tk_y1; refine wpList_box rfl _ _ rfl _ _ rfl hM ?_; intro y1 W' hy1 hM'; clear hM tk_y1; have hM := hM'; clear hM') | (refine wpList_get1 rfl _ _ rfl _ _ rfl hM 0 rfl (by first | exact cellSS | exact cellES | exact cellFS) (by omega) (.slice a1 0 c1) rfl ?_) | (refine wpList_get1 rfl _ _ rfl _ _ rfl hM 0 rfl (by first | exact cellSS | exact cellES | exact cellFS) (by omega) (.slice a2 0 c2) rfl ?_) | (refine wpList_get1 rfl _ _ rfl _ _ rfl hM 0 rfl (by first | exact cellSS | exact cellES | exact cellFS) (by omega) (.slice a3 0 c3) rfl ?_) | (go_at_call 67; refine (markStringS_zero a1 c1 1 _).mono ?_; rintro e W' ⟨rfl, hb'⟩; have hM' := hM.call hb'; clear hM hb'; have hM := hM'; clear hM') | (go_at_call 68; refine (markInt16S_zero a2 c2 1 _).mono ?_; rintro e W' ⟨rfl, hb'⟩; have hM' := hM.call hb'; clear hM hb'; have hM := hM'; clear hM') | (go_at_call 69; refine (markUint16S_zero a3 c3 1 _).mono ?_; rintro e W' ⟨rfl, hb'⟩; have hM' := hM.call hb'; clear hM hb'; have hM := hM'; clear hM'))
  go_ret
  exact ⟨rfl, hM.below⟩
set_option maxRecDepth 100000 in
set_option maxHeartbeats 1000000 in
theorem heldHerd_zero (a1 a2 a3 : Option Addr) (c1 c2 c3 : Nat) (w : World) :
    Calls Tryd.prog 30 #[.agg (arr 3 (h3 (.slice a1 0 c1) (.slice a2 0 c2) (.slice a3 0 c3))), .int .i64 1] w fun e w' => e = .returned (.int .i64 1) ∧ Below w.heap.size w w' := by
  have hM := Mem.nil w
  have tk_y1 : True := trivial
  go_enter Tryd.func30, Tryd.ntmps30
  go_wp2_with (first | (have _t := tk_y1; refine wpList_box rfl _ _ rfl _ _ rfl hM ?_; intro y1 W' hy1 hM'; clear hM tk_y1; have hM := hM'; clear hM') | (refine wpList_get1 rfl _ _ rfl _ _ rfl hM 0 rfl (by first | exact cellSS | exact cellES | exact cellFS) (by omega) (.slice a1 0 c1) rfl ?_) | (refine wpList_get1 rfl _ _ rfl _ _ rfl hM 0 rfl (by first | exact cellSS | exact cellES | exact cellFS) (by omega) (.slice a2 0 c2) rfl ?_) | (refine wpList_get1 rfl _ _ rfl _ _ rfl hM 0 rfl (by first | exact cellSS | exact cellES | exact cellFS) (by omega) (.slice a3 0 c3) rfl ?_) | (go_at_call 75; refine (heldStringS_zero a1 c1 1 _).mono ?_; rintro e W' ⟨rfl, hb'⟩; have hM' := hM.call hb'; clear hM hb'; have hM := hM'; clear hM') | (go_at_call 76; refine (heldInt16S_zero a2 c2 1 _).mono ?_; rintro e W' ⟨rfl, hb'⟩; have hM' := hM.call hb'; clear hM hb'; have hM := hM'; clear hM') | (go_at_call 77; refine (heldUint16S_zero a3 c3 1 _).mono ?_; rintro e W' ⟨rfl, hb'⟩; have hM' := hM.call hb'; clear hM hb'; have hM := hM'; clear hM'))
  go_ret
  exact ⟨rfl, hM.below⟩
end Go.Proofs.YthodkbmenndnoaaDoor

/-
  laws.eqInt64S, markInt64S, heldInt64S over lists that hold room behind their end.
-/
namespace Go.Proofs.YthodkbmenndnoaaDoor
open Go Go.RowKit Go.BigFrame Go.ChangeShapes Go.WideShapes Go.Deep

theorem eqInt64S_zero (a a' : Option Addr) (c c' : Nat) (w : World) : Calls Tryd.prog 22 #[.slice a 0 c, .slice a' 0 c'] w fun e w' => e = .returned (.bool true) ∧ Below w.heap.size w w' := by
  go_enter Tryd.func22, Tryd.ntmps22
  go_wp2
  refine wp_loop_rounds 1 ?_
  rw [rounds_succ]
  go_wp2
  go_ret
  exact ⟨rfl, Below.refl _ _⟩
theorem markInt64S_zero (a : Option Addr) (c : Nat) (k : Int) (w : World) : Calls Tryd.prog 24 #[.slice a 0 c, .int .i64 k] w fun e w' => e = .returned (.int .i64 k) ∧ Below w.heap.size w w' := by
  go_enter Tryd.func24, Tryd.ntmps24
  go_wp2
  refine wp_loop_rounds 1 ?_
  rw [rounds_succ]
  go_wp2
  go_ret
  exact ⟨rfl, Below.refl _ _⟩
theorem heldInt64S_zero (a : Option Addr) (c : Nat) (k : Int) (w : World) : Calls Tryd.prog 25 #[.slice a 0 c, .int .i64 k] w fun e w' => e = .returned (.int .i64 k) ∧ Below w.heap.size w w' := by
  go_enter Tryd.func25, Tryd.ntmps25
  go_wp2
  refine wp_loop_rounds 1 ?_
  rw [rounds_succ]
  go_wp2
  go_ret
  exact ⟨rfl, Below.refl _ _⟩

set_option maxRecDepth 100000 in
set_option maxHeartbeats 1000000 in
/-- eqInt64S of two lists that hold the same. -/
theorem eqInt64S_list (b b' n c c' N N' : Nat) (F F' : Nat → Value) (ys : Nat → Int) (hF : ∀ j, j < n → F j = vInt64S ys j) (hF' : ∀ j, j < n → F' j = vInt64S ys j) (hN : n ≤ N) (hN' : n ≤ N') (hn : n ≤ 1048576) (w : World) (hA : At w b N F) (hA' : At w b' N' F') (hne : b ≠ b') :
    Calls Tryd.prog 22 #[.slice (some ⟨b, 0, none⟩) n c, .slice (some ⟨b', 0, none⟩) n c'] w fun e w' => e = .returned (.bool true) ∧ Below w.heap.size w w' := by
  have hM : Mem w [(b, N, F), (b', N', F')] w := ((Mem.nil w).old hA (fun i p h => by simp at h)).old hA' (fun i p h => by
    match i, h with
    | 0, h => simp at h; rw [← h]; exact hne
    | _ + 1, h => simp at h)
  have Hf := Lib.hid hF
  have Hf' := Lib.hid hF'
  clear hA hA' hF hF'
  go_enter Tryd.func22, Tryd.ntmps22
  go_wp2
  go_loopw [5] (fun i wr => ∃ k : Nat, k ≤ n ∧ i = .int .i64 k ∧ Mem w [(b, N, F), (b', N', F')] wr) (fun i _ => n - (intOf i).toNat)
  case atStart => exact ⟨0, by omega, rfl, hM⟩
  case round =>
    clear hM
    obtain ⟨k, hk, rfl, hM⟩ := hrel
    by_cases hlt : k < n
    · have l2 : (k : Int) < n := by omega
      have c1 : F k = .int .i64 (ys k) := Hf.out k hlt
      have c2 : F' k = .int .i64 (ys k) := Hf'.out k hlt
      have hb : (ys k != ys k) = false := by simp
      go_wp2
      ((try simp only [Act.put, List.setIfInBounds_toArray, List.set_cons_succ, List.set_cons_zero]); refine wp_region_mem (by kernel_rfl) (by kernel_rfl) hM ?_; clear hM; (repeat (first | go_big_quiet_skip | (go_big_quiet_want; first | (refine quiet_get1 _ _ rfl _ _ rfl 1 rfl cellInt64S (by omega) _ c2 ?_; (simp only [Act.put, List.setIfInBounds_toArray, List.set_cons_succ, List.set_cons_zero]); go_big_quiet_on) | (refine quiet_get1 _ _ rfl _ _ rfl 0 rfl cellInt64S (by omega) _ c1 ?_; (simp only [Act.put, List.setIfInBounds_toArray, List.set_cons_succ, List.set_cons_zero]); go_big_quiet_on) | (refine quiet_val ?_; apply Exists.intro; refine ⟨fun W => ?_, ?_⟩; (go_simp; (try simp only [l2, hb, if_true, Bool.false_eq_true, if_false]); rfl); (simp only [Act.put, List.setIfInBounds_toArray, List.set_cons_succ, List.set_cons_zero]); go_big_quiet_on)))); (with_reducible refine wpQuiet_nil ?_); intro W' hM)
      go_wp2
      go_roundw
      case rel => exact ⟨k + 1, by omega, by go_num, hM⟩
      case measure => simp [intOf]; omega
    · obtain rfl : k = n := by omega
      go_wp2
      go_ret
      exact ⟨rfl, hM.below⟩

/-- The mark j, as a cell. -/
def mkInt64 (j : Nat) : Value := .int .i64 (j : Int)
set_option maxRecDepth 100000 in
set_option maxHeartbeats 1000000 in
/-- markInt64S writes its marks into the list. -/
theorem markInt64S_list (b0 : Base) (K : Blocks) (b n c N k0 : Nat) (F : Nat → Value) (hN : n ≤ N) (hn : n ≤ 1048576) (hk0 : k0 ≤ 100000000) (hb : b0.B ≤ b) (w : World) (hM0 : Mem b0 ((b, N, F) :: K) w) :
    Calls Tryd.prog 24 #[.slice (some ⟨b, 0, none⟩) n c, .int .i64 k0] w fun e w' => e = .returned (.int .i64 ((k0 + n : Nat) : Int)) ∧ ∃ G, (∀ j, j < n → G j = mkInt64 (k0 + j)) ∧ Mem b0 ((b, N, G) :: K) w' := by
  have hM := hM0
  clear hM0
  go_enter Tryd.func24, Tryd.ntmps24
  go_wp2
  go_loopw [1, 5] (fun t i wr => ∃ k : Nat, k ≤ n ∧ t = .int .i64 ((k0 + k : Nat) : Int) ∧ i = .int .i64 k ∧ ∃ G, Hid (∀ j, j < k → G j = mkInt64 (k0 + j)) ∧ Mem b0 ((b, N, G) :: K) wr) (fun _ i _ => n - (intOf i).toNat)
  case atStart => exact ⟨0, by omega, by simp, rfl, F, Lib.hid (fun j hj => absurd hj (by omega)), hM⟩
  case round =>
    clear hM
    obtain ⟨k, hk, rfl, rfl, G, hG, hM⟩ := hrel
    by_cases hlt : k < n
    · have l2 : (k : Int) < n := by omega
      obtain ⟨mm, hm⟩ : ∃ m : Nat, m = k0 + k := ⟨_, rfl⟩
      rw [← hm]
      have n1 : IntKind.i64.wrap ((mm : Int) + 1) = (mm : Int) + 1 := IntWalk.i64_in _ (by omega)
      have n2 : IntKind.i64.wrap (mm : Int) = (mm : Int) := IntWalk.i64_in _ (by omega)
      have hl : (mm : Int) + 1 = ((k0 + (k + 1) : Nat) : Int) := by omega
      have Hl := Lib.hid hl
      have Hm := Lib.hid hm
      clear hm hl
      go_wp2_with (first | (refine wpList_set1 rfl _ _ _ rfl _ _ rfl _ rfl ?_ hM 0 rfl (by assumption) (cellTab _ rfl) (by omega) ?_; (first | rfl | exact h1 _); intro W' hM'; clear hM; have hM := hM'; clear hM'; simp [List.set, Act.eval] at hM))
      go_roundw
      case rel => exact ⟨k + 1, by omega, by first | exact congrArg (Value.int .i64) Hl.out | rfl, by go_num, _, Lib.hid (fun j hj => by
        simp only [upd]
        by_cases e0 : j = k
        · rw [if_pos e0, e0, ← Hm.out]; rfl
        · rw [if_neg e0]; exact hG.out j (by omega)), hM⟩
      case measure => simp [intOf]; omega
    · obtain rfl : k = n := by omega
      go_wp2
      go_ret
      exact ⟨rfl, G, hG.out, hM⟩

set_option maxRecDepth 100000 in
set_option maxHeartbeats 1000000 in
/-- heldInt64S finds the marks. -/
theorem heldInt64S_list (b n c N k0 : Nat) (G : Nat → Value) (hN : n ≤ N) (hn : n ≤ 1048576) (hk0 : k0 ≤ 100000000) (hG : ∀ j, j < n → G j = mkInt64 (k0 + j)) (w : World) (hA : At w b N G) :
    Calls Tryd.prog 25 #[.slice (some ⟨b, 0, none⟩) n c, .int .i64 k0] w fun e w' => e = .returned (.int .i64 ((k0 + n : Nat) : Int)) ∧ Below w.heap.size w w' := by
  have hM : Mem w [(b, N, G)] w := (Mem.nil w).old hA (fun i p h => by simp at h)
  have Hg := Lib.hid hG
  clear hA hG
  go_enter Tryd.func25, Tryd.ntmps25
  go_wp2
  go_loopw [1, 5] (fun t i wr => ∃ k : Nat, k ≤ n ∧ t = .int .i64 ((k0 + k : Nat) : Int) ∧ i = .int .i64 k ∧ Mem w [(b, N, G)] wr) (fun _ i _ => n - (intOf i).toNat)
  case atStart => exact ⟨0, by omega, by simp, rfl, hM⟩
  case round =>
    clear hM
    obtain ⟨k, hk, rfl, rfl, hM⟩ := hrel
    by_cases hlt : k < n
    · have l2 : (k : Int) < n := by omega
      obtain ⟨mm, hm⟩ : ∃ m : Nat, m = k0 + k := ⟨_, rfl⟩
      have g0 : G k = .int .i64 (mm : Int) := by rw [Hg.out k hlt, hm]; rfl
      rw [← hm]
      have n1 : IntKind.i64.wrap ((mm : Int) + 1) = (mm : Int) + 1 := IntWalk.i64_in _ (by omega)
      have n2 : IntKind.i64.wrap (mm : Int) = (mm : Int) := IntWalk.i64_in _ (by omega)
      have hl : (mm : Int) + 1 = ((k0 + (k + 1) : Nat) : Int) := by omega
      have Hl := Lib.hid hl
      clear hm hl
      go_wp2_with (first | (refine wpList_get1 rfl _ _ rfl _ _ rfl hM 0 rfl (cellTab _ rfl) (by omega) _ g0 ?_))
      go_roundw
      case rel => exact ⟨k + 1, by omega, by first | exact congrArg (Value.int .i64) Hl.out | rfl, by go_num, hM⟩
      case measure => simp [intOf]; omega
    · obtain rfl : k = n := by omega
      go_wp2
      go_ret
      exact ⟨rfl, hM.below⟩
end Go.Proofs.YthodkbmenndnoaaDoor

