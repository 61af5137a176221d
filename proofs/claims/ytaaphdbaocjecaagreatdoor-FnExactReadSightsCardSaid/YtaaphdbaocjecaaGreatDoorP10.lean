/-
  Several texts in one: Cat, GivesR, SightsTI, ReadSgX, OpenRd, ReadSgK.
-/
import Derived.Test.YtaaphdbaocjecaaGreatDoorP3
import Derived.Test.YtaaphdbaocjecaaGreatDoorP8
import Derived.Test.YtaaphdbaocjecaaGreatDoorP9
import Derived.Test.YtaaphdbaocjecaaGreatDoorP7
import Derived.Test.YtaaphdbaocjecaaGreatDoorP5
import Derived.Test.YtaaphdbaocjecaaGreatDoorP1
import Derived.Stop.LaidErr
import Derived.Lib.LaidTab
import Derived.Lay
import Derived.ShapedOpen
import Derived.ChangeAgain
/-
  PLAIN LAW: a list's elements are appended to a list that has none and no room.
-/
namespace Go.Proofs.YtaaphdbaocjecaaGreatDoor
open Go Go.RowKit

/-- A block that a call gave, told by its world. -/
theorem Mem.freshQ {b0 : Base} {L : Blocks} {X X' : World} {b n : Nat} {f : Nat → Value} (hM : Mem b0 L X) (hb : Below X.heap.size X X') (ha : At X' b n f) (hge : X.heap.size ≤ b) : Mem b0 ((b, n, f) :: L) X' := by
  have hM2 := hM.call hb
  have off : ∀ (i : Nat) (p : Nat × Nat × (Nat → Value)), L[i]? = some p → p.1 ≠ b := fun i p h => by
    have := (hM.ats i p.1 p.2.1 p.2.2 h).lt
    omega
  refine ⟨hM2.good, fun i b' n' f' hi => ?_, fun i j x y hi hj hne => ?_⟩
  · match i, hi with
    | 0, hi => simp at hi; obtain ⟨rfl, rfl, rfl⟩ := hi; exact ha
    | i + 1, hi => exact hM2.ats i b' n' f' (by simpa using hi)
  · match i, j, hi, hj with
    | 0, 0, _, _ => exact absurd rfl hne
    | 0, j + 1, hi, hj => simp at hi hj; rw [← hi]; exact fun e => off j y hj e.symm
    | i + 1, 0, hi, hj => simp at hi hj; rw [← hj]; exact off i x hi
    | i + 1, j + 1, hi, hj => exact hM2.apart i j x y (by simpa using hi) (by simpa using hj) (by omega)

section
variable {P : Program} {ops : Array Oper} {rest : List Oper} {o : Oper} {a : Act} {w : Base} {W : World} {Q : Exit → Act → World → Prop} {L : Blocks}
/-- A list's elements, one or more, are appended to a list that has none and no room. -/
theorem wpList_cat0 (hgd : o.guard = none) (s x : Operand) (t : TypeId) (ho : o.op = .call { callee := .builtin .append, args := #[s, x], argTypes := #[t, t] })
    (e : TypeId) (m bs : Nat) (z : Value) (hu : P.underlying t = some (.slice e)) (hz : (P.info? e).map (fun i => (i.size, i.zero, i.bytes)) = some (m, some z, bs)) (hzs : z.cells.size = m) (hbs : bs ≤ 1000)
    (b0 : Nat) (hs : a.eval s = .slice (some ⟨b0, 0, none⟩) 0 0) (bn n cn : Nat) (hx : a.eval x = .slice (some ⟨bn, 0, none⟩) n cn) (hn1 : 1 ≤ n) (hn : n ≤ 1048576)
    (hM : Mem w L W) (i0 : Nat) {N : Nat} {f : Nat → Value} (hi0 : L[i0]? = some (bn, N, f)) (hN : n * m ≤ N)
    (h : ∀ b' c' F' W', w.B ≤ b' → n ≤ c' → (∀ j, j < n * m → F' j = f j) → Mem w ((b', c' * m, F') :: L) W' → wpList P ops Q rest (a.put o.dst (.slice (some ⟨b', 0, none⟩) n c')) W') : wpList P ops Q (o :: rest) a W := by
  obtain ⟨i, hi, hq⟩ := Option.map_eq_some_iff.1 hz
  simp only [Prod.mk.injEq] at hq
  obtain ⟨rfl, q2, rfl⟩ := hq
  refine wpList_plain hgd fun J hJ => ?_
  have hb48 : Builtin.nextslicecap (0 + n) 0 * i.bytes ≤ 281474976710656 := growslice_fits (by omega) (by
    have : (0 + n) * i.bytes ≤ 1048576 * 1000 := Nat.mul_le_mul (by omega) hbs
    omega)
  have hr := run_append_grow (P := P) W t o.type e i z hu hi q2 ⟨b0, 0, none⟩ 0 0 [] (by simp) (fun j v hv => by simp at hv) ⟨bn, 0, none⟩ n cn (arr (n * i.size) f).toList (by simp [arr_size]) ((hM.ats i0 _ _ _ hi0).list hN) (by omega) (by omega) hb48
  have hge := grownCap_ge W (0 + n) 0 e
  rw [Nat.zero_add] at hr hge
  unfold Oper.wp execOp
  simp only [ho, resolve, invoke, builtin, Sem.run_bind, Sem.run_pure, Result.andThen_ok, List.map_toArray, List.map_cons, List.map_nil, hs, hx, hr]
  refine hJ _ _ (h _ _ _ _ hM.size hge (fun j hj => ?_) (hM.drew.allocA e _ (grownCap W n 0 e * i.size) ?_))
  · rw [Array.getElem?_append_left (by simp [arr_size]; omega)]
    simp [arr, hj]
  · simp only [Array.size_append, List.size_toArray, size_zeroCells, hzs, Array.length_toList, arr_size, List.length_nil]
    rw [Nat.zero_add, ← Nat.add_mul]
    congr 1; omega
end
end Go.Proofs.YtaaphdbaocjecaaGreatDoor

/-
  PLAIN: what a call gives that returns a list and a code (or a list, a number and a code): no element, or the first cells of a new block; a block brought to the front.
-/
namespace Go.Proofs.YtaaphdbaocjecaaGreatDoor
open Go Go.RowKit

/-- The list v: n elements of m cells, R, in a new block; or none. -/
def NewL (m n : Nat) (R : Nat → Value) (w : World) (v : Value) (w' : World) : Prop :=
  (n = 0 ∧ (∃ a c, v = .slice a 0 c) ∧ Below w.heap.size w w') ∨ ∃ b c N F, v = .slice (some ⟨b, 0, none⟩) n c ∧ w.heap.size ≤ b ∧ n * m ≤ N ∧ (∀ j, j < n * m → F j = R j) ∧ At w' b N F ∧ Below w.heap.size w w'
def GivesR (m n : Nat) (R : Nat → Value) (cc : Int) (w : World) (e : Ending) (w' : World) : Prop := ∃ v, e = .returned (.tuple #[v, .int .i64 cc]) ∧ NewL m n R w v w'
def GivesR2 (m n : Nat) (R : Nat → Value) (x cc : Int) (w : World) (e : Ending) (w' : World) : Prop := ∃ v, e = .returned (.tuple #[v, .int .i64 x, .int .i64 cc]) ∧ NewL m n R w v w'
theorem NewL.zero {m n : Nat} {R : Nat → Value} {w : World} {v : Value} {w' : World} (h : NewL m n R w v w') (hn : n = 0) : ∃ a c, v = .slice a 0 c ∧ Below w.heap.size w w' := by
  rcases h with ⟨-, ⟨a, c, h⟩, hb⟩ | ⟨b, c, N, F, h, -, -, -, -, hb⟩
  · exact ⟨a, c, h, hb⟩
  · exact ⟨_, c, by rw [h, hn], hb⟩
theorem NewL.some {m n : Nat} {R : Nat → Value} {w : World} {v : Value} {w' : World} (h : NewL m n R w v w') (hn : 0 < n) : ∃ b c N F, v = .slice (some ⟨b, 0, none⟩) n c ∧ w.heap.size ≤ b ∧ n * m ≤ N ∧ (∀ j, j < n * m → F j = R j) ∧ At w' b N F ∧ Below w.heap.size w w' := by
  rcases h with ⟨h, -⟩ | h
  · omega
  · exact h
theorem GivesR.to {m n n' : Nat} {R R' : Nat → Value} {c c' : Int} {w : World} {e : Ending} {w' : World} (h : GivesR m n R c w e w') (hn : n = n') (hR : R = R') (hc : c = c') : GivesR m n' R' c' w e w' := by rw [← hn, ← hR, ← hc]; exact h
/-- No list. -/
theorem GivesR.none {m : Nat} {R : Nat → Value} {n : Nat} {cc cc' : Int} {w w' : World} {a : Option Addr} {c : Nat} (hb : Below w.heap.size w w') (hn : n = 0) (hc : cc' = cc) : GivesR m n R cc w (.returned (.tuple #[.slice a 0 c, .int .i64 cc'])) w' := ⟨_, by rw [hc], .inl ⟨hn, ⟨a, c, rfl⟩, hb⟩⟩
/-- The i-th block is brought to the front. -/
theorem Mem.toFront {w : Base} {W : World} {L : Blocks} (h : Mem w L W) (i : Nat) {p : Nat × Nat × (Nat → Value)} (hi : L[i]? = some p) : Mem w (p :: L.eraseIdx i) W := by
  have key : ∀ j q, (L.eraseIdx i)[j]? = some q → L[if j < i then j else j + 1]? = some q := fun j q hq => by
    rw [List.getElem?_eraseIdx] at hq
    split at hq <;> rename_i hji
    · rw [if_pos hji]; exact hq
    · rw [if_neg hji]; exact hq
  refine ⟨h.good, fun j b n f hj => ?_, fun j k x y hj hk hne => ?_⟩
  · match j, hj with
    | 0, hj => simp at hj; subst hj; exact h.ats i _ _ _ hi
    | j + 1, hj => exact h.ats _ b n f (key j _ (by simpa using hj))
  · match j, k, hj, hk with
    | 0, 0, _, _ => exact absurd rfl hne
    | 0, k + 1, hj, hk =>
      simp at hj; subst hj
      exact h.apart i _ _ y hi (key k _ (by simpa using hk)) (by split <;> omega)
    | j + 1, 0, hj, hk =>
      simp at hk; subst hk
      exact h.apart _ i x _ (key j _ (by simpa using hj)) hi (by split <;> omega)
    | j + 1, k + 1, hj, hk => exact h.apart _ _ x y (key j _ (by simpa using hj)) (key k _ (by simpa using hk)) (by split <;> split <;> omega)
end Go.Proofs.YtaaphdbaocjecaaGreatDoor

/-
  impl.SightsText by contract.
-/
namespace Go.Proofs.YtaaphdbaocjecaaGreatDoor
open Go Go.RowKit Go.BigFrame

set_option maxRecDepth 100000 in
set_option maxHeartbeats 4000000 in
theorem implSightsText_anyG (b n c : Nat) (hs : Nat → Nat → Int) (hF : ∀ i, i < n → FitsSight (hs i)) (hn : n ≤ 1048576) (w : World) (hT : TabP w) (N : Nat) (G : Nat → Value) (hG : ∀ j, j < n * 3 → G j = sSight hs j) (hN : n * 3 ≤ N) (hB : At w b N G) :
    Calls Tryz.prog 27 #[.slice (some ⟨b, 0, none⟩) n c] w fun e w' => e = .returned (.string (bs (sightsT n hs))) ∧ Below w.heap.size w w' := by
  have hM : Mem w [(b, N, G)] w := (Mem.nil w).old hB (fun i p h => by simp at h)
  have HG := Lib.hid hG
  clear hG
  have HF := Lib.hid hF
  have HT := Lib.hid hT
  have hv : ∀ (r : Bool) (_ : sightsB gMost n hs = r) W, At W b N G → Calls Tryz.prog 42 #[.agg (arr 122 (pas gMost)), .slice (some ⟨b, 0, none⟩) n c] W fun e w' => e = .returned (.bool r) ∧ Below W.heap.size W w' := fun r hr W h => by
    rw [← hr]; exact implValidSights_anyG gMost fits_most b n c hs hF hn W N G HG.out hN h
  clear hB hF hT
  cases hz : sightsB gMost n hs
  · have HV := Lib.hid (hv false hz)
    have Hp := Lib.hid (sightsT_no hz)
    clear hv hz
    go_enter Tryz.func27, Tryz.ntmps27
    go_wp2_with (first | (refine wpList_greatest rfl _ _ rfl rfl rfl ?_) | (go_at_call 42; refine (HV.out _ (hM.ats 0 _ _ _ rfl)).mono ?_; rintro e W' ⟨rfl, hb'⟩; have hM' := hM.call hb'; clear hM hb'; have hM := hM'; clear hM'))
    go_ret
    exact ⟨ret_bs Hp.out.symm, hM.below⟩
  have HV := Lib.hid (hv true hz)
  have Hp := Lib.hid (sightsT_yes hz)
  have hm := sightsB_most hz
  have h40 := hm.1
  have HM := Lib.hid hm.2
  clear hv hz hm
  go_enter Tryz.func27, Tryz.ntmps27
  go_wp2_with (first | (refine wpList_greatest rfl _ _ rfl rfl rfl ?_) | (go_at_call 42; refine (HV.out _ (hM.ats 0 _ _ _ rfl)).mono ?_; rintro e W' ⟨rfl, hb'⟩; have hM' := hM.call hb'; clear hM hb'; have hM := hM'; clear hM'))
  go_loopw [3, 12] (fun v i wr => ∃ k : Nat, k ≤ n ∧ i = .int .i64 k ∧ Lst (Base.of w) [(b, N, G)] 1 v k (strF (sightW hs)) wr) (fun _ i _ => n - (intOf i).toNat)
  case atStart => exact ⟨0, by omega, rfl, .inl ⟨rfl, rfl, hM⟩⟩
  case round =>
    clear hM
    obtain ⟨k, hk, rfl, hL⟩ := hrel
    by_cases hlt : k < n
    · have l2 : (k : Int) < n := by omega
      have eG : arr 3 (fun j => G (k * 3 + j)) = arr 3 (vSight (hs k)) := arr_congr fun j hj => by rw [HG.out _ (by omega), sSight_row _ _ _ hj]
      obtain ⟨⟨d0, d1⟩, ⟨x0, x1⟩, y0, y1⟩ := HM.out k hlt
      have lu := numB_len (n := hs k 0) (by omega)
      have lx := spotT_len (x := hs k 1) (y := hs k 2) (by omega) (by omega)
      have HD := Lib.hid (fun (W : World) (h : TabP W) => fmt_any (hs k 0) d0 (by omega) W h)
      have HX := Lib.hid (fun (W : World) (h : TabP W) => spotText_any (hs k 1) (hs k 2) ⟨x0, by omega⟩ ⟨y0, by omega⟩ W h)
      obtain ⟨d, hd⟩ : ∃ d, hs k 0 = d := ⟨_, rfl⟩
      obtain ⟨x, hx⟩ : ∃ x, hs k 1 = x := ⟨_, rfl⟩
      obtain ⟨y, hy⟩ : ∃ y, hs k 2 = y := ⟨_, rfl⟩
      obtain ⟨u, hu⟩ : ∃ u, numB d = u := ⟨_, rfl⟩
      obtain ⟨v, hv⟩ : ∃ v, spotT x y = v := ⟨_, rfl⟩
      have e0 : vSight (hs k) 0 = .int .i16 d := by rw [← hd]; rfl
      have e1 : arr 2 (fun j => vSight (hs k) (1 + j)) = arr 2 (sp x y) := by rw [← hx, ← hy]; exact spSight1 (hs k)
      have HW := Lib.hid (show ∀ j, j < 1 → Value.string (bs (u ++ [58] ++ v)) = strF (sightW hs) (k * 1 + j) from fun j hj => by
        obtain rfl : j = 0 := by omega
        unfold strF sightW
        rw [Nat.mul_one, Nat.add_zero, hd, hx, hy, hu, hv])
      rw [hd] at HD lu d0 d1
      rw [hx, hy] at HX lx
      rw [hu] at HD lu
      rw [hv] at HX lx
      have hle : k ≤ 1048576 := by omega
      have cd : IntKind.i64.wrap d = d := IntWalk.i64_in _ (by omega)
      clear hd hx hy hu hv
      rcases hL with ⟨rfl, hn0, hM⟩ | ⟨bw, cw, F, rfl, hbb, hnc, hFF, hM⟩
      · have Hn0 := Lib.hid hn0
        have Hq : Hid (∀ j, j < 1 → (fun _ => Value.string (bs (u ++ [58] ++ v))) j = strF (sightW hs) j) := Lib.hid (fun j hj => by have := HW.out j hj; rwa [hn0, Nat.zero_mul, Nat.zero_add] at this)
        clear hn0
        have tk_b3 : True := trivial; have tk_r1 : True := trivial; have tk_r2 : True := trivial; have tk_l1 : True := trivial; have tk_p1 : True := trivial
        go_wp2_with (first | (have _t := tk_r1; (refine wpList_get rfl _ _ rfl _ _ rfl hM 0 rfl rowSight (by omega) ?_); rw [eG]; clear tk_r1) | (have _t := tk_b3; refine wpList_zero rfl _ rfl zeroSight hM ?_; intro b3 W' hb3 hM'; clear hM tk_b3; have hM := hM'; clear hM') | (have _t := tk_r2; (refine wpList_lay rfl _ _ _ rfl _ _ rfl _ _ rfl hM 0 rfl (by assumption) rowSight (by omega) (fun _ _ => rfl) ?_; intro W' hM'; clear hM; have hM := hM'; clear hM'; simp only [List.set] at hM; have hM1 := hM.re 0 rfl (vSight (hs k)) (fun j hj => by simp [lay, hj]); simp only [List.set_cons_zero] at hM1; clear hM; have hM := hM1; clear hM1); clear tk_r2))
        ((try simp only [Act.put, List.setIfInBounds_toArray, List.set_cons_succ, List.set_cons_zero]); refine region_reads [0, 1, 2, 3, 4, 5, 6, 7, 8, 9] #[true, true, true, true, true, true, true, true, true, true, false, false, false] 3 (by kernel_rfl) (by kernel_rfl) (by kernel_rfl) hM ?_; clear hM; (repeat (refine qs_plain rfl rfl ?_; first | (refine b_get1 _ _ rfl _ _ rfl 0 rfl (cellTab _ rfl) (by omega) _ e0 ?_; (simp only [Act.put, List.setIfInBounds_toArray, List.set_cons_succ, List.set_cons_zero])) | (refine b_get _ _ rfl _ _ rfl 0 rfl (rowTab _ 2 rfl) (by omega) ?_; rw [e1]; (simp only [Act.put, List.setIfInBounds_toArray, List.set_cons_succ, List.set_cons_zero])) | (refine b_call ?_; apply Exists.intro; apply Exists.intro; apply Exists.intro; refine ⟨fun W => ?_, fun W hM => ?_, ?_⟩; (go_simp; exact ⟨rfl, rfl⟩); (with_reducible exact HD.out W (HT.out.below hM.below)); (simp only [Act.put, List.setIfInBounds_toArray, List.set_cons_succ, List.set_cons_zero])) | (refine b_call ?_; apply Exists.intro; apply Exists.intro; apply Exists.intro; refine ⟨fun W => ?_, fun W hM => ?_, ?_⟩; (go_simp; exact ⟨rfl, rfl⟩); (with_reducible exact HX.out W (HT.out.below hM.below)); (simp only [Act.put, List.setIfInBounds_toArray, List.set_cons_succ, List.set_cons_zero])) | (refine b_val ⟨_, fun W => cat_op _ _ rfl _ _ rfl rfl (by simp only [List.length_append, List.length_cons, List.length_nil]; omega) W, ?_⟩; (simp only [Act.put, List.setIfInBounds_toArray, List.set_cons_succ, List.set_cons_zero])) | (refine b_val ?_; apply Exists.intro; refine ⟨fun W => ?_, ?_⟩; (go_simp; (try simp only [cd, if_true]); rfl); (simp only [Act.put, List.setIfInBounds_toArray, List.set_cons_succ, List.set_cons_zero])))); (with_reducible refine qs_nil ?_))
        ((refine mix_one (i := 10) (by kernel_rfl) rfl (by kernel_rfl) rfl ?_); (refine step_lit1 _ _ _ rfl (.string (bs (u ++ [58] ++ v))) (by first | rfl | simp) rfl _ strs_under strs_info ?_; intro l1 hl1; (simp only [Act.put, List.setIfInBounds_toArray, List.set_cons_succ, List.set_cons_zero])); (refine mix_one (i := 11) (by kernel_rfl) rfl (by kernel_rfl) rfl ?_); (refine step_push0 _ _ _ rfl _ 1 _ _ strs_under infoStringS rfl (by omega) rfl _ _ rfl (strF (sightW hs)) Hq.out ?_; intro bL cL FL hbL hcL hFL; (simp only [Act.put, List.setIfInBounds_toArray, List.set_cons_succ, List.set_cons_zero])); (refine mix_one (i := 12) (by kernel_rfl) rfl (by kernel_rfl) rfl ?_); (refine step_val ?_; apply Exists.intro; refine ⟨fun W => ?_, ?_⟩; (go_simp; rfl); (simp only [Act.put, List.setIfInBounds_toArray, List.set_cons_succ, List.set_cons_zero])); (refine mix_end (by kernel_rfl) ?_; intro W' hM; simp only [List.cons_append, List.nil_append] at hM))
        go_wp2
        go_roundw
        case rel => exact ⟨k + 1, by omega, by go_num, by
          rw [Hn0.out]
          exact .inr ⟨bL, cL, FL, rfl, hbL, hcL, hFL, hM.skip⟩⟩
        case measure => simp [intOf]; omega
      · have Hf := Lib.hid hFF
        clear hFF
        have tk_b3 : True := trivial; have tk_r1 : True := trivial; have tk_r2 : True := trivial; have tk_l1 : True := trivial; have tk_p1 : True := trivial
        go_wp2_with (first | (have _t := tk_r1; (refine wpList_get rfl _ _ rfl _ _ rfl hM 1 rfl rowSight (by omega) ?_); rw [eG]; clear tk_r1) | (have _t := tk_b3; refine wpList_zero rfl _ rfl zeroSight hM ?_; intro b3 W' hb3 hM'; clear hM tk_b3; have hM := hM'; clear hM') | (have _t := tk_r2; (refine wpList_lay rfl _ _ _ rfl _ _ rfl _ _ rfl hM 0 rfl (by assumption) rowSight (by omega) (fun _ _ => rfl) ?_; intro W' hM'; clear hM; have hM := hM'; clear hM'; simp only [List.set] at hM; have hM1 := hM.re 0 rfl (vSight (hs k)) (fun j hj => by simp [lay, hj]); simp only [List.set_cons_zero] at hM1; clear hM; have hM := hM1; clear hM1); clear tk_r2))
        have hM1 := hM.toFront 1 rfl
        simp only [List.eraseIdx_cons_succ, List.eraseIdx_cons_zero] at hM1
        clear hM
        have hM := hM1
        clear hM1
        ((try simp only [Act.put, List.setIfInBounds_toArray, List.set_cons_succ, List.set_cons_zero]); refine region_readsX [0, 1, 2, 3, 4, 5, 6, 7, 8, 9] #[true, true, true, true, true, true, true, true, true, true, false, false, false] 3 [(bw, cw * 1, F)] (by kernel_rfl) (by kernel_rfl) (by kernel_rfl) hM ?_; clear hM; (repeat (refine qs_plain rfl rfl ?_; first | (refine b_get1 _ _ rfl _ _ rfl 0 rfl (cellTab _ rfl) (by omega) _ e0 ?_; (simp only [Act.put, List.setIfInBounds_toArray, List.set_cons_succ, List.set_cons_zero])) | (refine b_get _ _ rfl _ _ rfl 0 rfl (rowTab _ 2 rfl) (by omega) ?_; rw [e1]; (simp only [Act.put, List.setIfInBounds_toArray, List.set_cons_succ, List.set_cons_zero])) | (refine b_call ?_; apply Exists.intro; apply Exists.intro; apply Exists.intro; refine ⟨fun W => ?_, fun W hM => ?_, ?_⟩; (go_simp; exact ⟨rfl, rfl⟩); (with_reducible exact HD.out W (HT.out.below hM.below)); (simp only [Act.put, List.setIfInBounds_toArray, List.set_cons_succ, List.set_cons_zero])) | (refine b_call ?_; apply Exists.intro; apply Exists.intro; apply Exists.intro; refine ⟨fun W => ?_, fun W hM => ?_, ?_⟩; (go_simp; exact ⟨rfl, rfl⟩); (with_reducible exact HX.out W (HT.out.below hM.below)); (simp only [Act.put, List.setIfInBounds_toArray, List.set_cons_succ, List.set_cons_zero])) | (refine b_val ⟨_, fun W => cat_op _ _ rfl _ _ rfl rfl (by simp only [List.length_append, List.length_cons, List.length_nil]; omega) W, ?_⟩; (simp only [Act.put, List.setIfInBounds_toArray, List.set_cons_succ, List.set_cons_zero])) | (refine b_val ?_; apply Exists.intro; refine ⟨fun W => ?_, ?_⟩; (go_simp; (try simp only [cd, if_true]); rfl); (simp only [Act.put, List.setIfInBounds_toArray, List.set_cons_succ, List.set_cons_zero])))); (with_reducible refine qs_nil ?_))
        ((refine mix_one (i := 10) (by kernel_rfl) rfl (by kernel_rfl) rfl ?_); (refine step_lit1 _ _ _ rfl (.string (bs (u ++ [58] ++ v))) (by first | rfl | simp) rfl _ strs_under strs_info ?_; intro l1 hl1; (simp only [Act.put, List.setIfInBounds_toArray, List.set_cons_succ, List.set_cons_zero])); (refine mix_one (i := 11) (by kernel_rfl) rfl (by kernel_rfl) rfl ?_); (refine step_push1 _ _ _ rfl _ 1 _ _ strs_under infoStringS rfl (by omega) _ _ _ _ rfl hbb hnc hle _ _ rfl (fun _ _ => rfl) (strF (sightW hs)) Hf.out HW.out ?_; intro bL cL FL hbL hcL hFL; (simp only [Act.put, List.setIfInBounds_toArray, List.set_cons_succ, List.set_cons_zero])); (refine mix_one (i := 12) (by kernel_rfl) rfl (by kernel_rfl) rfl ?_); (refine step_val ?_; apply Exists.intro; refine ⟨fun W => ?_, ?_⟩; (go_simp; rfl); (simp only [Act.put, List.setIfInBounds_toArray, List.set_cons_succ, List.set_cons_zero])); (refine mix_end (by kernel_rfl) ?_; intro W' hM; simp only [List.cons_append, List.nil_append] at hM))
        go_wp2
        go_roundw
        case rel => exact ⟨k + 1, by omega, by go_num, .inr ⟨bL, cL, FL, rfl, hbL, hcL, hFL, hM.skip⟩⟩
        case measure => simp [intOf]; omega
    · obtain rfl : k = n := by omega
      have HJ := Lib.hid (join_lst hL [32] 32 (fun j hj => sightW_len (HM.out j hj)) (by simp only [List.length_cons, List.length_nil]; omega) (by omega))
      have hM := hL.mem
      go_wp2_with (first | (go_at_call 36; refine (HJ.out).mono ?_; rintro e W' ⟨rfl, hb'⟩; have hM' := hM.call hb'; clear hM hb'; have hM := hM'; clear hM'))
      go_ret
      exact ⟨ret_bs Hp.out.symm, hM.below⟩
theorem implSightsText_any (b n c : Nat) (hs : Nat → Nat → Int) (hF : ∀ i, i < n → FitsSight (hs i)) (hn : n ≤ 1048576) (w : World) (hT : TabP w) (hB : At w b (n * 3) (sSight hs)) :
    Calls Tryz.prog 27 #[.slice (some ⟨b, 0, none⟩) n c] w fun e w' => e = .returned (.string (bs (sightsT n hs))) ∧ Below w.heap.size w w' :=
  implSightsText_anyG b n c hs hF hn w hT (n * 3) (sSight hs) (fun _ _ => rfl) (Nat.le_refl _) hB
end Go.Proofs.YtaaphdbaocjecaaGreatDoor

/-
  impl.ReadSights by contract.
-/
namespace Go.Proofs.YtaaphdbaocjecaaGreatDoor
open Go Go.RowKit Go.BigFrame

set_option maxRecDepth 100000 in
set_option maxHeartbeats 4000000 in
theorem implValidSights_nil (g : Nat → Int) (hg : Fits g) (ho : okB g = true) (w : World) :
    Calls Tryz.prog 42 #[.agg (arr 122 (pas g)), .slice none 0 0] w fun e w' => e = .returned (.bool true) ∧ Below w.heap.size w w' := by
  have hM := Mem.nil w
  have hv : ∀ W, Calls Tryz.prog 55 #[.agg (arr 122 (pas g))] W fun e w' => e = .returned (.bool true) ∧ Below W.heap.size W w' := fun W => by
    rw [← ho, okB_eq]; exact implValid_any g hg W
  have Hv := Lib.hid hv
  clear hv ho
  have tk_b1 : True := trivial; have tk_q1 : True := trivial
  go_enter Tryz.func42, Tryz.ntmps42
  go_wp2_with (first | (go_at_call 55; refine (Hv.out _).mono ?_; rintro e W' ⟨rfl, hb'⟩; have hM' := hM.call hb'; clear hM hb'; have hM := hM'; clear hM') | (have _t := tk_b1; refine wpList_box rfl _ _ rfl _ _ rfl hM ?_; intro b1 W' hb1 hM'; clear hM tk_b1; have hM := hM'; clear hM') | (have _t := tk_q1; (refine wpList_get rfl _ _ rfl _ _ rfl hM 0 rfl (rowTab _ _ rfl) (by omega) ?_); clear tk_q1))
  refine wp_loop_rounds 1 ?_
  rw [rounds_succ]
  go_wp2
  go_ret
  exact ⟨rfl, hM.below⟩
set_option maxRecDepth 100000 in
set_option maxHeartbeats 4000000 in
theorem implSightsText_nil (w : World) :
    Calls Tryz.prog 27 #[.slice none 0 0] w fun e w' => e = .returned (.string (bs [])) ∧ Below w.heap.size w w' := by
  have hM := Mem.nil w
  have HV := Lib.hid (implValidSights_nil gMost fits_most rfl)
  go_enter Tryz.func27, Tryz.ntmps27
  go_wp2_with (first | (refine wpList_greatest rfl _ _ rfl rfl rfl ?_) | (go_at_call 42; refine (HV.out _).mono ?_; rintro e W' ⟨rfl, hb'⟩; have hM' := hM.call hb'; clear hM hb'; have hM := hM'; clear hM'))
  refine wp_loop_rounds 1 ?_
  rw [rounds_succ]
  go_wp2_with (first | (go_at_call 36; refine (joinS_none none 0 [32] _).mono ?_; rintro e W' ⟨rfl, hb'⟩; have hM' := hM.call hb'; clear hM hb'; have hM := hM'; clear hM'))
  go_ret
  exact ⟨rfl, hM.below⟩
/-- What both Reads answer. -/
def ReadS (l : List UInt8) (w : World) (e : Ending) (w' : World) : Prop :=
  ∃ v n hs c, e = .returned (.tuple #[v, .int .i64 c]) ∧ Lst (Base.of w) [] 3 v n (sSight hs) w' ∧ ((TellsS l n hs ∧ c = 0) ∨ (n = 0 ∧ c = 5 ∧ ∀ m gs, ¬ TellsS l m gs))
structure RdEnv (a : Nat → Addr) (W : World) : Prop where
  env : PEnv a W
  tab : TabP W
theorem RdEnv.below {a : Nat → Addr} {W W' : World} (h : RdEnv a W) (hb : Below W.heap.size W W') : RdEnv a W' := ⟨h.env.below hb, h.tab.below hb⟩
theorem implSightsText_lst (n : Nat) (hs : Nat → Nat → Int) (v : Value) (w0 w : World) (hF : ∀ i, i < n → FitsSight (hs i)) (hn : n ≤ 1048576) (hT : TabP w) (hL : Lst (Base.of w0) [] 3 v n (sSight hs) w) :
    Calls Tryz.prog 27 #[v] w fun e w' => e = .returned (.string (bs (sightsT n hs))) ∧ Below w.heap.size w w' := by
  rcases hL with ⟨rfl, rfl, hM⟩ | ⟨b, c, G, rfl, hb, hc, hG, hM⟩
  · refine (implSightsText_nil w).mono ?_
    rintro e w' ⟨rfl, h⟩
    exact ⟨by rw [show sightsT 0 hs = [] from rfl], h⟩
  · exact implSightsText_anyG b n c hs hF hn w hT (c * 3) G hG (Nat.mul_le_mul_right 3 hc) (hM.ats 0 _ _ _ rfl)
set_option maxRecDepth 100000 in
set_option maxHeartbeats 4000000 in
theorem implReadSights_any {a : Nat → Addr} (l : List UInt8) (hl : l.length ≤ 1048576) (w : World) (hE : RdEnv a w) :
    Calls Tryz.prog 11 #[.string (bs l)] w (ReadS l w) := by
  have hM := Mem.nil w
  have HE := Lib.hid hE
  have HP := Lib.hid (parseWordsSg_any l hl w hE.env)
  clear hE
  go_enter Tryz.func11, Tryz.ntmps11
  go_wp2_with (first | (go_at_call 25; refine HP.out.mono ?_))
  rintro e W' (⟨v, N, rfl, herr, hN, hbad⟩ | ⟨v, rfl, hL, h12⟩)
  · obtain ⟨t, p, rfl⟩ := herr.iface
    have hE2 := HE.out.below hN.below
    have HC := Lib.hid (codeG_any hE2.env.errs (herr.syn hE2.env.errs hN.ofK))
    have Hb := Lib.hid hbad
    clear herr hbad hE2 hM
    go_wp2_with (first | (go_at_call 20; refine HC.out.mono ?_; rintro e W' ⟨rfl, rfl⟩))
    refine bodyPost_ret (results_tmp2 rfl _ _ _) rfl ?_
    exact ⟨_, 0, sgHs l, 5, rfl, .inl ⟨rfl, rfl, Mem.start hN.good⟩, .inr ⟨rfl, rfl, Hb.out.no⟩⟩
  · have HT := Lib.hid (implSightsText_lst (sgWs l) (sgHs l) v w W' (fun i _ => fits_sgV _) (by omega) (HE.out.below hL.mem.below).tab hL)
    have HL := Lib.hid hL
    clear hL hM
    have hq := bs_beq (sightsT (sgWs l) (sgHs l)) l
    have Hy := Lib.hid (sgText_yes (l := l))
    have Hno := Lib.hid (sgText_no (l := l))
    obtain ⟨tx, htx⟩ : ∃ tx, sightsT (sgWs l) (sgHs l) = tx := ⟨_, rfl⟩
    rw [htx] at HT hq Hy Hno
    clear htx h12
    by_cases he : tx = l
    · rw [decide_eq_true he] at hq
      have Hk := Lib.hid (Hy.out he)
      clear he Hy Hno
      go_wp2_with (first | (go_at_call 27; refine HT.out.mono ?_; rintro e W2 ⟨rfl, hb2⟩))
      refine bodyPost_ret (results_tmp2 rfl _ _ _) rfl ?_
      exact ⟨_, sgWs l, sgHs l, 0, rfl, HL.out.call hb2, .inl ⟨Hk.out, rfl⟩⟩
    · rw [decide_eq_false he] at hq
      have Hk := Lib.hid (Hno.out he)
      clear he Hy Hno
      go_wp2_with (first | (go_at_call 27; refine HT.out.mono ?_; rintro e W2 ⟨rfl, hb2⟩))
      refine bodyPost_ret (results_tmp2 rfl _ _ _) rfl ?_
      exact ⟨_, 0, sgHs l, 5, rfl, .inl ⟨rfl, rfl, Mem.start (HL.out.mem.call hb2).good⟩, .inr ⟨rfl, rfl, Hk.out⟩⟩
end Go.Proofs.YtaaphdbaocjecaaGreatDoor

/-
  What the rows of the texts read take out of their condition and of the world's shape: the errors, the library's errors of numbers, the table of powers, the variable that Cut reads; the wrap that keeps the shape.
-/
namespace Go.Proofs.YtaaphdbaocjecaaGreatDoor
open Go Go.RowKit Go.ChangeShapes Go.WideShapes Go.ChangeAt

theorem tabP_dataR {H : Type} : (Rows.laid_internal_strconv_uint64pow10 : DataW H) = Lib.tabData .u64 Lib.pow10Tab := rfl
theorem rdEnv_of_laid {W : World} (h : laidMetH Tryz.prog errsLaid W) (hs : W.ShapedOpen Tryz.prog) : ∃ a, RdEnv a W := by
  obtain ⟨a, hE⟩ := errs_of_laid h
  rw [MakeChecks.laidMetH_plain _ _ _ (by kernel_rfl)] at h
  have hT : TabP W := Lib.tabIs_of_head (k := .u64) (zs := Lib.pow10Tab) (n := 20) (t := 148) (e := 124) tabP_g (by kernel_rfl) Tryz.underlying148 Tryz.underlying124 (by kernel_rfl) (by kernel_rfl) (by have h' := h.tail.tail; rw [tabP_dataR] at h'; exact h')
  have h4 := h.tail.tail.tail.tail
  obtain ⟨a1, s1, v1, -⟩ := laid_sentinel (tp := 165) (te := 167) (ts := 9) h4 numE_g2 (show (Tryz.prog.globals[10]?).map (·.type) = some 45 by kernel_rfl) Tryz.underlying45 row_errT Tryz.underlying165 Tryz.underlying167 rfl rfl Tryz.underlying9 cells_es cells_str
  obtain ⟨a2, s2, v2, -⟩ := laid_sentinel (tp := 165) (te := 167) (ts := 9) h4.tail numE_g1 (show (Tryz.prog.globals[9]?).map (·.type) = some 45 by kernel_rfl) Tryz.underlying45 row_errT Tryz.underlying165 Tryz.underlying167 rfl rfl Tryz.underlying9 cells_es cells_str
  exact ⟨a, ⟨hE, ⟨⟨_, _, v2⟩, _, _, v1⟩, maxP_of_shape hs⟩, hT⟩

section
variable {H : Type} {enc : TypeId × Value → H}
/-- The wrap, a condition beside it and the world's shape kept. -/
theorem lifted_shaped {a : Assume} {C : Checked} {os : Os} {f : FuncId} {fn : Func} {s : ChangeSpec} {conds : List PathCond} {apart fresh handsOn again : Bool} {X : World → Array Value → Prop}
    (hX : ∀ (w w' : World) (args : Array Value), w.heap = w'.heap → X w args → X w' args)
    (own : ownKnob C.prog.godebug = none) (started : os.Started) (noInit : C.prog.inits.idxOf? f = none) (hfn : C.prog.funcs[f]? = some fn)
    (witness : ∃ (w : World) (tape : Tape) (i : Input), w.os = os ∧ (w.forCall tape i).Shaped C.prog ∧ i.vars = [] ∧ Input.okWide C.prog (w.forCall tape i) .any w.heap.size f i ∧
      ((s.pre enc C.prog fn conds apart (w.forCall tape i).memory i.args ∧ X (w.forCall tape i).memory i.args) ∧ sizedMet enc C.prog fn (OpenSpec.ofChange s) apart (w.forCall tape i).memory i.args) ∧ a.holds C.prog (lone (Frame.enter C.prog f i.args .normal) [] (w.forCall tape i)))
    (contract : ∀ (W : World) (base : Nat) (args : Array Value) (ds gs : List (DataW H)) (before : List MemPlace),
      (∀ (j : Nat) t v, fn.params[j]? = some t → args[j]? = some v → Value.okWide C.prog W .any base t v) →
      DataW.Whole enc C.prog fn.params.toList s.vars apart W args.toList ds gs before → X W args → W.ShapedOpen C.prog →
      Calls C.prog f args W fun e W' => ∃ v, e = .returned v ∧ s.post enc C.prog fn apart fresh handsOn again W args v W') :
    ReturnsInHanded a C os f .any (fun w args => (s.pre enc C.prog fn conds apart w args ∧ X w args) ∧ sizedMet enc C.prog fn (OpenSpec.ofChange s) apart w args) (s.post enc C.prog fn apart fresh handsOn again) := by
  refine returnsInHanded_of_calls own started noInit witness fun w tape i _ hsh _ hok hpre _ => ?_
  obtain ⟨_, _, _, fn', hfn', _, _, _, _, hval⟩ := hok
  obtain rfl : fn' = fn := Option.some.inj (hfn'.symm.trans hfn)
  obtain ⟨⟨⟨ds, gs, before, hw, -⟩, hx⟩, -⟩ := hpre
  exact (contract (w.forCall tape i) w.heap.size i.args ds gs before hval (DataW.Whole.of_heap (w' := w.forCall tape i) (by rfl) hw) (hX _ _ _ (by rfl) hx) hsh).mono fun e W' ⟨v, he, hp⟩ => by
    subst he
    exact ChangeSpec.post_blind hp
end
end Go.Proofs.YtaaphdbaocjecaaGreatDoor

/-
  What spec's strict reading makes of a text of sights.
-/
namespace Go.Proofs.YtaaphdbaocjecaaGreatDoor
open Go Go.RowKit Go.BigFrame

def wsN (wd : List UInt8) : List UInt8 := (partsC 58 wd).getD 0 []
def wsP (wd : List UInt8) : List UInt8 := (partsC 58 wd).getD 1 []
def wsU (wd : List UInt8) : List UInt8 := (partsC 44 (wsP wd)).getD 0 []
def wsV (wd : List UInt8) : List UInt8 := (partsC 44 (wsP wd)).getD 1 []
def wsH (wd : List UInt8) : Nat → Int := st3 (numV (wsN wd)) (numV (wsU wd)) (numV (wsV wd))
structure WsOk (wd : List UInt8) : Prop where
  p : (partsC 58 wd).length = 2
  s : (partsC 44 (wsP wd)).length = 2
  q : numB9 (wsN wd) = true
  u : numB9 (wsU wd) = true
  v : numB9 (wsV wd) = true
  r : inB 0 1000 (numV (wsN wd)) = true
  x : numV (wsU wd) < 10
  y : numV (wsV wd) < 10
theorem WsOk.told {wd : List UInt8} (h : WsOk wd) : SightIn (wsH wd 0) (wsH wd 1) (wsH wd 2) ∧ ∀ (hs : Nat → Nat → Int) (k : Nat), hs k = wsH wd → wd = sightW hs k := by
  constructor
  · have h1 := h.x
    have h2 := h.y
    have h3 := inB_true h.r
    have p1 : 0 ≤ numV (wsU wd) := numV_pos
    have p2 : 0 ≤ numV (wsV wd) := numV_pos
    exact ⟨h3, ⟨p1, show numV (wsU wd) ≤ 9 by omega⟩, p2, show numV (wsV wd) ≤ 9 by omega⟩
  · intro hs k e
    have e1 := (parts_two.1 (two_of h.p)).1
    have e2 := (parts_two.1 (two_of h.s)).1
    unfold sightW spotT
    rw [e, show wsH wd 0 = numV (wsN wd) from rfl, show wsH wd 1 = numV (wsU wd) from rfl, show wsH wd 2 = numV (wsV wd) from rfl, ← num_back h.u, ← num_back h.v, ← num_back h.q]
    have e3 : wsP wd = wsU wd ++ 44 :: wsV wd := e2
    have e4 : wd = wsN wd ++ 58 :: wsP wd := e1
    rw [e3] at e4
    simpa using e4
theorem wsOk_of {wd : List UInt8} {hs : Nat → Nat → Int} {k : Nat} (hb : SightIn (hs k 0) (hs k 1) (hs k 2)) (e : wd = sightW hs k) : WsOk wd := by
  obtain ⟨⟨d0, d1⟩, ⟨x0, x1⟩, y0, y1⟩ := hb
  have hp := sightW_parts hs k
  rw [← e] at hp
  have eN : wsN wd = numB (hs k 0) := by unfold wsN; rw [hp]; rfl
  have eP : wsP wd = spotT (hs k 1) (hs k 2) := by unfold wsP; rw [hp]; rfl
  have eU : wsU wd = numB (hs k 1) := by unfold wsU; rw [eP, spotT_parts]; rfl
  have eV : wsV wd = numB (hs k 2) := by unfold wsV; rw [eP, spotT_parts]; rfl
  refine ⟨by rw [hp]; rfl, by rw [eP, spotT_parts]; rfl, ?_, ?_, ?_, ?_, ?_, ?_⟩
  · rw [eN]; exact numB_num9 (by omega) (by omega)
  · rw [eU]; exact numB_num9 (by omega) (by omega)
  · rw [eV]; exact numB_num9 (by omega) (by omega)
  · rw [eN, numV_numB (by omega) (by omega)]; exact decide_eq_true ⟨by omega, by omega⟩
  · rw [eU, numV_numB (by omega) (by omega)]; omega
  · rw [eV, numV_numB (by omega) (by omega)]; omega
def wsHs (l : List UInt8) : Nat → Nat → Int := fun j => wsH ((partsC 32 l).getD j [])
theorem ws_fits {wd : List UInt8} (h : WsOk wd) : FitsSight (wsH wd) := by
  have := h.told.1
  exact ⟨by have := this.1; omega, by have := this.2.1; omega, by have := this.2.2; omega⟩
theorem ws_all {l : List UInt8} {n : Nat} (hn : (partsC 32 l).length = n) (h40 : n ≤ 40) (h : ∀ j, j < n → WsOk ((partsC 32 l).getD j [])) (hs : seenB n (wsHs l) = true) : TellsS l n (wsHs l) := by
  refine ⟨?_, ?_⟩
  · unfold sightsB
    rw [hs, Bool.true_and, show okB gMost = true from rfl, Bool.true_and, List.all_eq_true]
    intro i hi
    have := (h i (List.mem_range.1 hi)).told.1
    rw [isB_most]
    show (inB 0 9 (wsHs l i 1) && inB 0 9 (wsHs l i 2)) = true
    rw [show inB 0 9 (wsHs l i 1) = true from decide_eq_true this.2.1, show inB 0 9 (wsHs l i 2) = true from decide_eq_true this.2.2]; rfl
  · subst hn
    refine (joinT_parts (fun k hk => ?_)).symm
    rw [← (h k hk).told.2 (wsHs l) k rfl, List.getD_eq_getElem?_getD, List.getElem?_eq_getElem hk]; rfl
theorem ws_bad {l : List UInt8} {n j : Nat} (h0 : l ≠ []) (hn : (partsC 32 l).length = n) (hj : j < n) (h : ¬ WsOk ((partsC 32 l).getD j [])) (m : Nat) (gs : Nat → Nat → Int) : ¬ TellsS l m gs := fun k => by
  obtain ⟨e1, e2⟩ := k.words h0
  exact h (wsOk_of (k.in j (by omega)) (e2 j (by omega)))
theorem ws_many {l : List UInt8} {n : Nat} (h0 : l ≠ []) (hn : (partsC 32 l).length = n) (h : 40 < n) (m : Nat) (gs : Nat → Nat → Int) : ¬ TellsS l m gs := fun k => by
  have := (k.words h0).1
  have := k.len
  omega
theorem ws_down {l : List UInt8} {n : Nat} (h0 : l ≠ []) (hn : (partsC 32 l).length = n) (hs : seenB n (wsHs l) = false) (m : Nat) (gs : Nat → Nat → Int) : ¬ TellsS l m gs := fun k => by
  obtain ⟨e1, e2⟩ := k.words h0
  have hmn : m = n := by omega
  subst hmn
  have he : ∀ j, j < m → wsHs l j 0 = gs j 0 ∧ wsHs l j 1 = gs j 1 ∧ wsHs l j 2 = gs j 2 := fun j hj => by
    have o := wsOk_of (k.in j hj) (e2 j hj)
    have ew := (e2 j hj).symm.trans (o.told.2 (wsHs l) j rfl)
    obtain ⟨a, b, c⟩ := sightW_inj (k.in j hj) o.told.1 ew
    exact ⟨a.symm, b.symm, c.symm⟩
  have hb := (k.same he).1
  unfold sightsB at hb
  rw [hs] at hb
  simp at hb
theorem readS_no {l : List UInt8} {w W : World} {b : Nat} {f : Nat → Value} {L : Blocks} (hM : Mem (Base.of w) ((b, 0, f) :: L) W) (hb : w.heap.size ≤ b) (hno : ∀ m gs, ¬ TellsS l m gs) : ReadS l w (.returned (.tuple #[.slice (some ⟨b, 0, none⟩) 0 0, .int .i64 5])) W :=
  ⟨_, 0, fun _ _ => 0, 5, rfl, .inr ⟨b, 0, f, rfl, hb, Nat.le_refl _, fun j hj => absurd hj (by omega), hM.fewer (L' := [(b, 0, f)]) (by simp)⟩, .inr ⟨rfl, rfl, hno⟩⟩
end Go.Proofs.YtaaphdbaocjecaaGreatDoor

