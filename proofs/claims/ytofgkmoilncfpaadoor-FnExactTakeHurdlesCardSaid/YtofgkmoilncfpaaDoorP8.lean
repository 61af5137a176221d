/-
  Several texts in one: HurdleV, PutS, PutL, PutI.
-/
import Derived.Test.YtofgkmoilncfpaaDoorP3
import Derived.Test.YtofgkmoilncfpaaDoorP7
import Derived.Test.YtofgkmoilncfpaaDoorP5
import Derived.Defers
import Derived.Recover
import Derived.WalkLawsBesides
/-
  Hurdle: its cells; argument lists; laws.szHurdleS, toHurdle, toHurdleS by contracts.
-/
namespace Go.Proofs.YtofgkmoilncfpaaDoor
open Go Go.RowKit Go.BigFrame Go.ChangeShapes Go.WideShapes Go.Deep

/-- The cells. -/
def vHurdle (h : Nat → Int) : Nat → Value := hd (h 0) (h 1) (h 2 == 1)
def zHurdle : Nat → Value := hd 0 0 false
theorem rowHurdle : RowT Tryd.prog 49 3 := ⟨⟨_, Tryd.underlying49, rfl⟩, by kernel_rfl⟩
theorem rowLHurdle : RowT Tryd.prog 53 3 := ⟨⟨_, Tryd.underlying53, rfl⟩, by kernel_rfl⟩
theorem zeroHurdle : (Tryd.prog.info? 49).map (·.zero) = some (some (.agg (arr 3 zHurdle))) := by kernel_rfl
theorem infoHurdle : (Tryd.prog.info? 49).map (fun i => (i.size, i.zero, i.bytes)) = some (3, some (.agg (arr 3 zHurdle)), 3) := by kernel_rfl
structure FitsHurdle (h : Nat → Int) : Prop where
  c0 : (-128 : Int) ≤ h 0 ∧ h 0 ≤ 127
  c1 : (-128 : Int) ≤ h 1 ∧ h 1 ≤ 127
  c2 : (0 : Int) ≤ h 2 ∧ h 2 ≤ 1
def sHurdle (hs : Nat → Nat → Int) : Nat → Value := fun k => vHurdle (hs (k / 3)) (k % 3)
theorem sHurdle_row (hs : Nat → Nat → Int) (k j : Nat) (hj : j < 3) : sHurdle hs (k * 3 + j) = vHurdle (hs k) j := by
  unfold sHurdle
  rw [show (k * 3 + j) / 3 = k by omega, show (k * 3 + j) % 3 = j by omega]
def HurdleArg (W : World) (v : Value) (n : Nat) (hs : Nat → Nat → Int) : Prop :=
  (n = 0 ∧ v = .slice none 0 0) ∨ ∃ b o c, v = .slice (some ⟨b, o, none⟩) n c ∧ Lies W b o (n * 3) (sHurdle hs)
theorem HurdleArg.below {w W : World} {v : Value} {n : Nat} {hs : Nat → Nat → Int} (h : HurdleArg w v n hs) (hb : Below w.heap.size w W) : HurdleArg W v n hs := by
  rcases h with h | ⟨b, o, c, e, h⟩
  · exact .inl h
  · exact .inr ⟨b, o, c, e, h.below hb⟩
theorem spHurdle0 (h : Nat → Int) : arr 2 (fun k => vHurdle h (0 + k)) = arr 2 (sp (h 0) (h 1)) := arr_congr fun k hk => by
  rcases (show k = 0 ∨ k = 1 by omega) with rfl | rfl <;> rfl
section
variable {H : Type} {enc : TypeId × Value → H} {w : World} {base : Nat} {spare : Nat → Bool} {held : Bool}
set_option maxRecDepth 100000 in
theorem cellsHurdle {fuel : Nat} {cs : List Value} {x : DataW H × List MemPlace} (h : DataW.trod enc Tryd.prog w base spare held fuel 53 cs = some x) :
    ∃ g : Nat → Int, cs = (List.range 3).map (vHurdle g) ∧ FitsHurdle g := by
  obtain ⟨xs, n, -, -, hlen, hxl, hf⟩ := DataW.trod_struct Tryd.underlying53 h
  have e : Tryd.prog.cellsOf 53 = 3 := by kernel_rfl
  have eSpot : Tryd.prog.cellsOf 51 = 2 := by kernel_rfl
  have ebool : Tryd.prog.cellsOf 4 = 1 := by kernel_rfl
  rw [e] at hlen
  match cs, hlen with
  | [c0, c1, c2], _ =>
    match xs, hxl with
    | [y0, y1], _ =>
      have h0 := hf 0 _ rfl
      change DataW.trod _ _ _ _ _ _ _ 51 ((List.drop 0 [c0, c1, c2]).take (Tryd.prog.cellsOf 51)) = some y0 at h0
      rw [eSpot] at h0
      have h1 := hf 1 _ rfl
      change DataW.trod _ _ _ _ _ _ _ 4 ((List.drop 2 [c0, c1, c2]).take (Tryd.prog.cellsOf 4)) = some y1 at h1
      rw [ebool] at h1
      obtain ⟨p0, p1, q0, b0, b1⟩ := spot_cells h0
      obtain ⟨pb2, q1, -⟩ := DataW.trod_bool Tryd.underlying4 h1
      obtain ⟨p2, hp2⟩ : ∃ p : Int, p = if pb2 then 1 else 0 := ⟨_, rfl⟩
      simp at q0 q1
      refine ⟨fun k => match k with | 0 => p0 | 1 => p1 | _ => p2, ?_, ⟨b0, b1, by rw [hp2]; cases pb2 <;> simp⟩⟩
      · skip
        obtain ⟨rfl, rfl⟩ := q0
        subst q1
        subst hp2
        cases pb2 <;> rfl

set_option maxRecDepth 100000 in
/-- A list out of its type and its reading. -/
theorem open_hurdles {t : TypeId} (ht : Tryd.prog.underlying t = some (.slice 53)) {b0 : Nat} {v : Value} {d : DataW H} {p : List MemPlace} (hval : Value.okWide Tryd.prog w .any b0 t v) (h : DataW.Trod enc Tryd.prog w base spare held t v d p) :
    ∃ n hs, n ≤ maxLen ∧ (∀ i, i < n → FitsHurdle (hs i)) ∧ HurdleArg w v n hs := by
  obtain ⟨fuel, h⟩ := h
  have e : Tryd.prog.cellsOf 53 = 3 := by kernel_rfl
  obtain ⟨sa, sl, sc, rfl⟩ := okWide_slice ht hval
  rcases open_slice ht h with ⟨h1, -⟩ | ⟨a, len, cap, m, n, D, Pl, hcs, hb, hl, hm, hmm, -, hi⟩
  · simp only [Value.cells] at h1
    obtain ⟨rfl, rfl, rfl⟩ : sa = none ∧ sl = 0 ∧ sc = 0 := by simpa using h1
    exact ⟨0, fun _ _ => 0, by decide, fun i hi => absurd hi (by omega), .inl ⟨rfl, rfl⟩⟩
  · obtain ⟨e1, e2, e3⟩ : sa = some a ∧ sl = len ∧ sc = cap := by simpa [Value.cells] using hcs
    subst e1 e2 e3
    have hlen : sl ≤ m := by rw [hmm]; split <;> omega
    rw [e] at hi
    have key : ∀ i, ∃ g : Nat → Int, i < sl → (FitsHurdle g ∧ ∀ j, j < 3 → w.cell? (a.add (i * 3 + j)) = some (vHurdle g j)) := fun i => by
      by_cases hil : i < sl
      · obtain ⟨cs', hc, ht'⟩ := hi i (by omega)
        obtain ⟨g, hg, fg⟩ := cellsHurdle ht'
        obtain ⟨-, -, hat⟩ := World.cells?_some hc
        refine ⟨g, fun _ => ⟨fg, fun j hj => ?_⟩⟩
        have := hat j hj
        rw [← Go.Deep.add_add] 
        rw [this, hg]
        simp [hj]
      · exact ⟨fun _ => 0, fun h => absurd h hil⟩
    have hspot : a.spot = none := by
      unfold Value.okWide at hval
      rw [ht] at hval
      simp only [Cell.okWide, Cell.ok, ht] at hval
      exact hval.2.2.2.1
    obtain ⟨ab, ao, asp⟩ := a
    simp only at hspot
    subst hspot
    refine ⟨sl, fun i => (key i).choose, by omega, fun i hil => ((key i).choose_spec hil).1, .inr ⟨ab, ao, sc, rfl, fun k hk => ?_⟩⟩
    have hki := ((key (k / 3)).choose_spec (by omega)).2 (k % 3) (by omega)
    rw [show k / 3 * 3 + k % 3 = k by omega] at hki
    have e2 : (⟨ab, ao, none⟩ : Addr).add k = ⟨ab, ao + k, none⟩ := by
      unfold Addr.add
      by_cases h0 : k = 0
      · simp [h0]
      · simp [h0]
    rw [e2] at hki
    exact hki
end

theorem szHurdleS_no (v : Value) (n : Nat) (hs : Nat → Nat → Int) (left : Int) (hn : n ≤ maxLen) (hl : left < n) (h0 : 0 ≤ left) (hl2 : left ≤ 1048576) (w : World) (h : HurdleArg w v n hs) :
    Calls Tryd.prog 5 #[v, .int .i64 left] w fun e w' => e = .returned (.int .i64 (-1)) ∧ Below w.heap.size w w' := by
  unfold maxLen at hn
  rcases h with ⟨rfl, rfl⟩ | ⟨b, o, c, rfl, h⟩
  · omega
  · have c1 : IntKind.i64.wrap (left - n) = left - n := IntWalk.i64_in _ (by omega)
    have d1 : decide (left - n < 0) = true := decide_eq_true (by omega)
    clear h
    go_enter Tryd.func5, Tryd.ntmps5
    go_wp2
    go_ret
    exact ⟨rfl, Below.refl _ _⟩
theorem szHurdleS_yes (v : Value) (n : Nat) (hs : Nat → Nat → Int) (left : Int) (hl : (n : Int) ≤ left) (hl2 : left ≤ 1048576) (w : World) (h : HurdleArg w v n hs) :
    Calls Tryd.prog 5 #[v, .int .i64 left] w fun e w' => e = .returned (.int .i64 (left - n)) ∧ Below w.heap.size w w' := by
  rcases h with ⟨rfl, rfl⟩ | ⟨b, o, c, rfl, h⟩
  · have c1 : IntKind.i64.wrap left = left := IntWalk.i64_in _ (by omega)
    have d1 : decide (left < 0) = false := decide_eq_false (by omega)
    go_enter Tryd.func5, Tryd.ntmps5
    go_wp2
    go_ret
    exact ⟨by simp, Below.refl _ _⟩
  · have c1 : IntKind.i64.wrap (left - n) = left - n := IntWalk.i64_in _ (by omega)
    have d1 : decide (left - n < 0) = false := decide_eq_false (by omega)
    clear h
    go_enter Tryd.func5, Tryd.ntmps5
    go_wp2
    go_ret
    exact ⟨rfl, Below.refl _ _⟩

theorem toHurdle_v (f : Nat → Value) (h : Nat → Int) (hf : ∀ k, k < 3 → f k = vHurdle h k) (w : World) :
    Calls Tryd.prog 18 #[.agg (arr 3 f)] w fun e w' => e = .returned (.agg (arr 3 (vHurdle h))) ∧ Below w.heap.size w w' := by
  rw [arr_congr hf]
  exact toHurdle_any (h 0) (h 1) (h 2 == 1) w

/-- A new list. -/
def GivenHurdle (n : Nat) (hs : Nat → Nat → Int) (w : World) (e : Ending) (w' : World) : Prop := ∃ b, e = .returned (.slice (some ⟨b, 0, none⟩) n n) ∧ w.heap.size ≤ b ∧ At w' b (n * 3) (sHurdle hs) ∧ Below w.heap.size w w'
set_option maxRecDepth 100000 in
set_option maxHeartbeats 1000000 in
theorem toHurdleS_any (v : Value) (n : Nat) (hs : Nat → Nat → Int) (hn : n ≤ 1048576) (w : World) (h : HurdleArg w v n hs) : Calls Tryd.prog 8 #[v] w (GivenHurdle n hs w) := by
  have hM := Mem.nil w
  rcases h with ⟨rfl, rfl⟩ | ⟨b, o, c, rfl, hL⟩
  · have tk_b1 : True := trivial
    go_enter Tryd.func8, Tryd.ntmps8
    go_wp2_with (first | (have _t := tk_b1; refine wpList_make rfl _ _ _ _ rfl 0 rfl rfl 3 zHurdle 3 Tryd.underlying36 infoHurdle (by omega) (by omega) (by omega) hM ?_; intro b1 W' hb1 hM'; clear hM tk_b1; have hM := hM'; clear hM'))
    refine wp_loop_rounds 1 ?_
    rw [rounds_succ]
    go_wp2
    go_ret
    exact ⟨b1, rfl, hb1, (hM.ats 0 _ _ _ rfl).congr (fun k hk => by omega), hM.below⟩
  · have HL := Lib.hid hL
    clear hL
    have tk_b1 : True := trivial
    go_enter Tryd.func8, Tryd.ntmps8
    go_wp2_with (first | (have _t := tk_b1; refine wpList_make rfl _ _ _ _ rfl n rfl rfl 3 zHurdle 3 Tryd.underlying36 infoHurdle (by omega) (by omega) hn hM ?_; intro b1 W' hb1 hM'; clear hM tk_b1; have hM := hM'; clear hM'))
    go_loopw [4] (fun i wr => ∃ k : Nat, k ≤ n ∧ i = .int .i64 k ∧ ∃ g, Hid (∀ j, j < k * 3 → g j = sHurdle hs j) ∧ Mem w [(b1, n * 3, g)] wr) (fun i _ => n - (intOf i).toNat)
    case atStart => exact ⟨0, by omega, rfl, _, Lib.hid (fun j hj => absurd hj (by omega)), hM⟩
    case round =>
      clear hM
      obtain ⟨k, hk, rfl, g, hg, hM⟩ := hrel
      by_cases hlt : k < n
      · go_wp2_with (first | (refine wpList_getL rfl _ _ rfl _ _ rfl _ _ (HL.out.below hM.below) (by first | exact rowLHurdle | exact rowHurdle) (k * 3) rfl (by omega) ?_) | (go_at_call 18; refine (toHurdle_v _ (hs k) (fun j hj => sHurdle_row hs k j hj) _).mono ?_; rintro e W' ⟨rfl, hb'⟩; have hM' := hM.call hb'; clear hM hb'; have hM := hM'; clear hM') | (refine wpList_lay rfl _ _ _ rfl _ _ rfl _ _ rfl hM 0 rfl (by assumption) rowHurdle (by omega) ?_ ?_; (first | (intro _ _; rfl) | (intro k _; exact hd_one _ _ _ _)); intro W' hM'; clear hM; have hM := hM'; clear hM'; simp only [List.set] at hM))
        go_roundw
        case rel => exact ⟨k + 1, by omega, by go_num, _, Lib.hid (fun j hj => by
          by_cases e : k * 3 ≤ j
          · have := sHurdle_row hs k (j - k * 3) (by omega)
            rw [show k * 3 + (j - k * 3) = j by omega] at this
            simp only [lay]
            rw [if_pos ⟨e, by omega⟩, this]
          · simp only [lay]
            rw [if_neg (by omega)]
            exact hg.out j (by omega)), hM⟩
        case measure => simp [intOf]; omega
      · obtain rfl : k = n := by omega
        go_wp2
        go_ret
        exact ⟨b1, rfl, hb1, (hM.ats 0 _ _ _ rfl).congr hg.out, hM.below⟩
end Go.Proofs.YtofgkmoilncfpaaDoor

/-
  spec.l01Set of a hurdle, l03Put, l03Asked by contracts.
-/
namespace Go.Proofs.YtofgkmoilncfpaaDoor
open Go Go.RowKit Go.BigFrame

theorem updB3_eq (G : Nat → Int) (i : Nat) (n : Int) (h : 102 ≤ i) : upd (pas G) i (.int .u16 n) = pas (setG G i n) := by
  funext k
  unfold upd pas setG
  by_cases e : k = i
  · subst e; simp [kd_u16 h]
  · simp [e]
theorem updB4_eq (G : Nat → Int) (i : Nat) (n : Int) (v : Value) (h : 102 ≤ i) : upd (upd (pas G) i v) i (.int .u16 n) = pas (setG G i n) := by
  rw [upd_upd, updB3_eq _ _ _ h]
/-- A hurdle put, or taken away. -/
def rowH (s : Bool) (v : Nat) : Nat := (if s then 112 else 102) + v
def putH (G : Nat → Int) (u v : Nat) (s on : Bool) : Nat → Int := setG G (rowH s v) (putR (G (rowH s v)) u on)
set_option maxRecDepth 100000 in
set_option maxHeartbeats 2000000 in
theorem l01Set_1off (base : Base) (b6 n6 : Nat) (f6 : Nat → Value) (b4 : Nat) (L : Blocks) (G : Nat → Int) (hb : base.B ≤ b4) (u v : Nat) (hu : u ≤ 9) (hv : v ≤ 9) (W : World) (hM0 : Mem base ((b6, n6, f6) :: (b4, 122, pas G) :: L) W) :
    Calls Tryd.prog 25 #[.pointer (some ⟨b4, 0, none⟩), .agg (arr 2 (sp u v)), .int .i64 1, .bool false] W fun e W' => e = .returned (.tuple #[]) ∧ Mem base ((b6, n6, f6) :: (b4, 122, pas (putH G u v false false)) :: L) W' := by
  have hM := hM0
  clear hM0
  have e0 : pas G (102 + v) = .int .u16 (G (102 + v)) := pas_u16 G (by omega)
  have lx : (u : Int) < 10 := by omega
  have ly : (v : Int) < 10 := by omega
  have cx : IntKind.u64.wrap (u : Int) = u := IntWalk.u64_in _ (by omega)
  have mx : min u 16 = u := by omega
  have q1 := clrR_eq (G (102 + v)) u
  have tk_b5 : True := trivial
  go_enter Tryd.func25, Tryd.ntmps25
  go_wp2_with (first | (have _t := tk_b5; refine wpList_box rfl _ _ rfl _ _ rfl hM ?_; intro b5 W' hb5 hM'; clear hM tk_b5; have hM := hM'; clear hM') | (refine wpList_get1 rfl _ _ rfl _ _ rfl hM 0 rfl (cellTab _ rfl) (by omega) (.int .i8 (u : Int)) rfl ?_))
  ((try simp only [Act.put, List.setIfInBounds_toArray, List.set_cons_succ, List.set_cons_zero]); refine region_tail_mem (m := 12) (by kernel_rfl) (by kernel_rfl) ?_; (have hM' := hM.drew); clear hM; have hM := hM'; clear hM'; simp only [List.take_succ_cons, List.take_zero, List.drop_succ_cons, List.drop_zero]; (repeat (refine wps_plain rfl ?_; (first | (refine still_get1 hM _ _ rfl _ _ rfl 0 rfl (cellTab _ rfl) (by omega) (.int .i8 (v : Int)) rfl ?_) | (refine still_get1 hM _ _ rfl _ _ rfl 0 rfl (cellTab _ rfl) (by omega) (.int .i8 (u : Int)) rfl ?_) | (refine still_get1 hM _ _ rfl _ _ rfl 2 rfl (cellTab _ rfl) (by omega) _ (e0) ?_) | (refine still_val ?_; apply Exists.intro; refine ⟨fun W => ?_, ?_⟩; (go_simp; (try simp only [lx, ly, q1, if_true]); rfl))); (simp only [Act.put, List.setIfInBounds_toArray, List.set_cons_succ, List.set_cons_zero]))); unfold wpStill)
  go_wp2_with (first | (refine wpList_set1 rfl _ _ _ rfl _ _ rfl _ rfl ?_ hM 2 rfl (by assumption) (cellTab _ rfl) (by omega) ?_; (first | rfl | exact h1 _); intro W' hM'; clear hM; have hM := hM'; clear hM'; simp [List.set, Act.eval] at hM))
  rw [updB3_eq _ _ _ (by omega)] at hM
  (try simp only [Exit.inBlock, Exit.then])
  refine bodyPost_ret (results_none rfl _ _ _) rfl ?_
  exact ⟨rfl, hM.drop⟩
set_option maxRecDepth 100000 in
set_option maxHeartbeats 2000000 in
theorem l01Set_1on (base : Base) (b6 n6 : Nat) (f6 : Nat → Value) (b4 : Nat) (L : Blocks) (G : Nat → Int) (hb : base.B ≤ b4) (u v : Nat) (hu : u ≤ 9) (hv : v ≤ 9) (W : World) (hM0 : Mem base ((b6, n6, f6) :: (b4, 122, pas G) :: L) W) :
    Calls Tryd.prog 25 #[.pointer (some ⟨b4, 0, none⟩), .agg (arr 2 (sp u v)), .int .i64 1, .bool true] W fun e W' => e = .returned (.tuple #[]) ∧ Mem base ((b6, n6, f6) :: (b4, 122, pas (putH G u v false true)) :: L) W' := by
  have hM := hM0
  clear hM0
  have e0 : pas G (102 + v) = .int .u16 (G (102 + v)) := pas_u16 G (by omega)
  have lx : (u : Int) < 10 := by omega
  have ly : (v : Int) < 10 := by omega
  have cx : IntKind.u64.wrap (u : Int) = u := IntWalk.u64_in _ (by omega)
  have mx : min u 16 = u := by omega
  have q1 := clrR_eq (G (102 + v)) u
  have tk_b5 : True := trivial
  go_enter Tryd.func25, Tryd.ntmps25
  go_wp2_with (first | (have _t := tk_b5; refine wpList_box rfl _ _ rfl _ _ rfl hM ?_; intro b5 W' hb5 hM'; clear hM tk_b5; have hM := hM'; clear hM') | (refine wpList_get1 rfl _ _ rfl _ _ rfl hM 0 rfl (cellTab _ rfl) (by omega) (.int .i8 (u : Int)) rfl ?_))
  ((try simp only [Act.put, List.setIfInBounds_toArray, List.set_cons_succ, List.set_cons_zero]); refine region_tail_mem (m := 12) (by kernel_rfl) (by kernel_rfl) ?_; (have hM' := hM.drew); clear hM; have hM := hM'; clear hM'; simp only [List.take_succ_cons, List.take_zero, List.drop_succ_cons, List.drop_zero]; (repeat (refine wps_plain rfl ?_; (first | (refine still_get1 hM _ _ rfl _ _ rfl 0 rfl (cellTab _ rfl) (by omega) (.int .i8 (v : Int)) rfl ?_) | (refine still_get1 hM _ _ rfl _ _ rfl 0 rfl (cellTab _ rfl) (by omega) (.int .i8 (u : Int)) rfl ?_) | (refine still_get1 hM _ _ rfl _ _ rfl 2 rfl (cellTab _ rfl) (by omega) _ (e0) ?_) | (refine still_val ?_; apply Exists.intro; refine ⟨fun W => ?_, ?_⟩; (go_simp; (try simp only [lx, ly, q1, if_true]); rfl))); (simp only [Act.put, List.setIfInBounds_toArray, List.set_cons_succ, List.set_cons_zero]))); unfold wpStill)
  go_wp2_with (first | (refine wpList_set1 rfl _ _ _ rfl _ _ rfl _ rfl ?_ hM 2 rfl (by assumption) (cellTab _ rfl) (by omega) ?_; (first | rfl | exact h1 _); intro W' hM'; clear hM; have hM := hM'; clear hM'; simp [List.set, Act.eval] at hM))
  have e1 := upd_at (pas G) (102 + v) (.int .u16 (clrR (G (102 + v)) u))
  have q2 := putR_on (G (102 + v)) u
  ((try simp only [Act.put, List.setIfInBounds_toArray, List.set_cons_succ, List.set_cons_zero]); refine region_tail_mem (m := 12) (by kernel_rfl) (by kernel_rfl) ?_; (have hM' := hM.drew); clear hM; have hM := hM'; clear hM'; simp only [List.take_succ_cons, List.take_zero, List.drop_succ_cons, List.drop_zero]; (repeat (refine wps_plain rfl ?_; (first | (refine still_get1 hM _ _ rfl _ _ rfl 0 rfl (cellTab _ rfl) (by omega) (.int .i8 (v : Int)) rfl ?_) | (refine still_get1 hM _ _ rfl _ _ rfl 0 rfl (cellTab _ rfl) (by omega) (.int .i8 (u : Int)) rfl ?_) | (refine still_get1 hM _ _ rfl _ _ rfl 2 rfl (cellTab _ rfl) (by omega) _ (e1) ?_) | (refine still_val ?_; apply Exists.intro; refine ⟨fun W => ?_, ?_⟩; (go_simp; (try simp only [lx, ly, q2, if_true]); rfl))); (simp only [Act.put, List.setIfInBounds_toArray, List.set_cons_succ, List.set_cons_zero]))); unfold wpStill)
  clear e1
  go_wp2_with (first | (refine wpList_set1 rfl _ _ _ rfl _ _ rfl _ rfl ?_ hM 2 rfl (by assumption) (cellTab _ rfl) (by omega) ?_; (first | rfl | exact h1 _); intro W' hM'; clear hM; have hM := hM'; clear hM'; simp [List.set, Act.eval] at hM))
  rw [updB4_eq _ _ _ _ (by omega)] at hM
  (try simp only [Exit.inBlock, Exit.then])
  refine bodyPost_ret (results_none rfl _ _ _) rfl ?_
  exact ⟨rfl, hM.drop⟩
set_option maxRecDepth 100000 in
set_option maxHeartbeats 2000000 in
theorem l01Set_2off (base : Base) (b6 n6 : Nat) (f6 : Nat → Value) (b4 : Nat) (L : Blocks) (G : Nat → Int) (hb : base.B ≤ b4) (u v : Nat) (hu : u ≤ 9) (hv : v ≤ 9) (W : World) (hM0 : Mem base ((b6, n6, f6) :: (b4, 122, pas G) :: L) W) :
    Calls Tryd.prog 25 #[.pointer (some ⟨b4, 0, none⟩), .agg (arr 2 (sp u v)), .int .i64 2, .bool false] W fun e W' => e = .returned (.tuple #[]) ∧ Mem base ((b6, n6, f6) :: (b4, 122, pas (putH G u v true false)) :: L) W' := by
  have hM := hM0
  clear hM0
  have e0 : pas G (112 + v) = .int .u16 (G (112 + v)) := pas_u16 G (by omega)
  have lx : (u : Int) < 10 := by omega
  have ly : (v : Int) < 10 := by omega
  have cx : IntKind.u64.wrap (u : Int) = u := IntWalk.u64_in _ (by omega)
  have mx : min u 16 = u := by omega
  have q1 := clrR_eq (G (112 + v)) u
  have tk_b5 : True := trivial
  go_enter Tryd.func25, Tryd.ntmps25
  go_wp2_with (first | (have _t := tk_b5; refine wpList_box rfl _ _ rfl _ _ rfl hM ?_; intro b5 W' hb5 hM'; clear hM tk_b5; have hM := hM'; clear hM') | (refine wpList_get1 rfl _ _ rfl _ _ rfl hM 0 rfl (cellTab _ rfl) (by omega) (.int .i8 (u : Int)) rfl ?_))
  ((try simp only [Act.put, List.setIfInBounds_toArray, List.set_cons_succ, List.set_cons_zero]); refine region_tail_mem (m := 12) (by kernel_rfl) (by kernel_rfl) ?_; (have hM' := hM.drew); clear hM; have hM := hM'; clear hM'; simp only [List.take_succ_cons, List.take_zero, List.drop_succ_cons, List.drop_zero]; (repeat (refine wps_plain rfl ?_; (first | (refine still_get1 hM _ _ rfl _ _ rfl 0 rfl (cellTab _ rfl) (by omega) (.int .i8 (v : Int)) rfl ?_) | (refine still_get1 hM _ _ rfl _ _ rfl 0 rfl (cellTab _ rfl) (by omega) (.int .i8 (u : Int)) rfl ?_) | (refine still_get1 hM _ _ rfl _ _ rfl 2 rfl (cellTab _ rfl) (by omega) _ (e0) ?_) | (refine still_val ?_; apply Exists.intro; refine ⟨fun W => ?_, ?_⟩; (go_simp; (try simp only [lx, ly, q1, if_true]); rfl))); (simp only [Act.put, List.setIfInBounds_toArray, List.set_cons_succ, List.set_cons_zero]))); unfold wpStill)
  go_wp2_with (first | (refine wpList_set1 rfl _ _ _ rfl _ _ rfl _ rfl ?_ hM 2 rfl (by assumption) (cellTab _ rfl) (by omega) ?_; (first | rfl | exact h1 _); intro W' hM'; clear hM; have hM := hM'; clear hM'; simp [List.set, Act.eval] at hM))
  rw [updB3_eq _ _ _ (by omega)] at hM
  go_end0
  exact ⟨rfl, hM.drop⟩
set_option maxRecDepth 100000 in
set_option maxHeartbeats 2000000 in
theorem l01Set_2on (base : Base) (b6 n6 : Nat) (f6 : Nat → Value) (b4 : Nat) (L : Blocks) (G : Nat → Int) (hb : base.B ≤ b4) (u v : Nat) (hu : u ≤ 9) (hv : v ≤ 9) (W : World) (hM0 : Mem base ((b6, n6, f6) :: (b4, 122, pas G) :: L) W) :
    Calls Tryd.prog 25 #[.pointer (some ⟨b4, 0, none⟩), .agg (arr 2 (sp u v)), .int .i64 2, .bool true] W fun e W' => e = .returned (.tuple #[]) ∧ Mem base ((b6, n6, f6) :: (b4, 122, pas (putH G u v true true)) :: L) W' := by
  have hM := hM0
  clear hM0
  have e0 : pas G (112 + v) = .int .u16 (G (112 + v)) := pas_u16 G (by omega)
  have lx : (u : Int) < 10 := by omega
  have ly : (v : Int) < 10 := by omega
  have cx : IntKind.u64.wrap (u : Int) = u := IntWalk.u64_in _ (by omega)
  have mx : min u 16 = u := by omega
  have q1 := clrR_eq (G (112 + v)) u
  have tk_b5 : True := trivial
  go_enter Tryd.func25, Tryd.ntmps25
  go_wp2_with (first | (have _t := tk_b5; refine wpList_box rfl _ _ rfl _ _ rfl hM ?_; intro b5 W' hb5 hM'; clear hM tk_b5; have hM := hM'; clear hM') | (refine wpList_get1 rfl _ _ rfl _ _ rfl hM 0 rfl (cellTab _ rfl) (by omega) (.int .i8 (u : Int)) rfl ?_))
  ((try simp only [Act.put, List.setIfInBounds_toArray, List.set_cons_succ, List.set_cons_zero]); refine region_tail_mem (m := 12) (by kernel_rfl) (by kernel_rfl) ?_; (have hM' := hM.drew); clear hM; have hM := hM'; clear hM'; simp only [List.take_succ_cons, List.take_zero, List.drop_succ_cons, List.drop_zero]; (repeat (refine wps_plain rfl ?_; (first | (refine still_get1 hM _ _ rfl _ _ rfl 0 rfl (cellTab _ rfl) (by omega) (.int .i8 (v : Int)) rfl ?_) | (refine still_get1 hM _ _ rfl _ _ rfl 0 rfl (cellTab _ rfl) (by omega) (.int .i8 (u : Int)) rfl ?_) | (refine still_get1 hM _ _ rfl _ _ rfl 2 rfl (cellTab _ rfl) (by omega) _ (e0) ?_) | (refine still_val ?_; apply Exists.intro; refine ⟨fun W => ?_, ?_⟩; (go_simp; (try simp only [lx, ly, q1, if_true]); rfl))); (simp only [Act.put, List.setIfInBounds_toArray, List.set_cons_succ, List.set_cons_zero]))); unfold wpStill)
  go_wp2_with (first | (refine wpList_set1 rfl _ _ _ rfl _ _ rfl _ rfl ?_ hM 2 rfl (by assumption) (cellTab _ rfl) (by omega) ?_; (first | rfl | exact h1 _); intro W' hM'; clear hM; have hM := hM'; clear hM'; simp [List.set, Act.eval] at hM))
  have e1 := upd_at (pas G) (112 + v) (.int .u16 (clrR (G (112 + v)) u))
  have q2 := putR_on (G (112 + v)) u
  ((try simp only [Act.put, List.setIfInBounds_toArray, List.set_cons_succ, List.set_cons_zero]); refine region_tail_mem (m := 12) (by kernel_rfl) (by kernel_rfl) ?_; (have hM' := hM.drew); clear hM; have hM := hM'; clear hM'; simp only [List.take_succ_cons, List.take_zero, List.drop_succ_cons, List.drop_zero]; (repeat (refine wps_plain rfl ?_; (first | (refine still_get1 hM _ _ rfl _ _ rfl 0 rfl (cellTab _ rfl) (by omega) (.int .i8 (v : Int)) rfl ?_) | (refine still_get1 hM _ _ rfl _ _ rfl 0 rfl (cellTab _ rfl) (by omega) (.int .i8 (u : Int)) rfl ?_) | (refine still_get1 hM _ _ rfl _ _ rfl 2 rfl (cellTab _ rfl) (by omega) _ (e1) ?_) | (refine still_val ?_; apply Exists.intro; refine ⟨fun W => ?_, ?_⟩; (go_simp; (try simp only [lx, ly, q2, if_true]); rfl))); (simp only [Act.put, List.setIfInBounds_toArray, List.set_cons_succ, List.set_cons_zero]))); unfold wpStill)
  clear e1
  go_wp2_with (first | (refine wpList_set1 rfl _ _ _ rfl _ _ rfl _ rfl ?_ hM 2 rfl (by assumption) (cellTab _ rfl) (by omega) ?_; (first | rfl | exact h1 _); intro W' hM'; clear hM; have hM := hM'; clear hM'; simp [List.set, Act.eval] at hM))
  rw [updB4_eq _ _ _ _ (by omega)] at hM
  go_end0
  exact ⟨rfl, hM.drop⟩
theorem l01Set_hur (base : Base) (b6 n6 : Nat) (f6 : Nat → Value) (b4 : Nat) (L : Blocks) (G : Nat → Int) (hb : base.B ≤ b4) (u v : Nat) (hu : u ≤ 9) (hv : v ≤ 9) (s on : Bool) (W : World) (hM0 : Mem base ((b6, n6, f6) :: (b4, 122, pas G) :: L) W) :
    Calls Tryd.prog 25 #[.pointer (some ⟨b4, 0, none⟩), .agg (arr 2 (sp u v)), .int .i64 (sideN s), .bool on] W fun e W' => e = .returned (.tuple #[]) ∧ Mem base ((b6, n6, f6) :: (b4, 122, pas (putH G u v s on)) :: L) W' := by
  cases s <;> cases on
  · exact l01Set_1off base b6 n6 f6 b4 L G hb u v hu hv W hM0
  · exact l01Set_1on base b6 n6 f6 b4 L G hb u v hu hv W hM0
  · exact l01Set_2off base b6 n6 f6 b4 L G hb u v hu hv W hM0
  · exact l01Set_2on base b6 n6 f6 b4 L G hb u v hu hv W hM0
end Go.Proofs.YtofgkmoilncfpaaDoor

/-
  spec.l03Put, l03Asked, AddHurdles and TakeHurdles by contracts.
-/
namespace Go.Proofs.YtofgkmoilncfpaaDoor
open Go Go.RowKit Go.BigFrame

/-- Hurdles put one after another. -/
def putsH (g : Nat → Int) (hs : Nat → Nat → Int) (on : Bool) : Nat → Nat → Int
  | 0 => g
  | k + 1 => putH (putsH g hs on k) (hs k 0).toNat (hs k 1).toNat (hs k 2 == 1) on
theorem putH_low (G : Nat → Int) (u v : Nat) (s on : Bool) (j : Nat) (h : j < 102) : putH G u v s on j = G j := by
  unfold putH rowH setG
  rw [if_neg (by split <;> omega)]
theorem putsH_low (g : Nat → Int) (hs : Nat → Nat → Int) (on : Bool) (k j : Nat) (h : j < 102) : putsH g hs on k j = g j := by
  induction k with
  | zero => rfl
  | succ k ih => rw [putsH, putH_low _ _ _ _ _ _ h, ih]
theorem hurIs_low {g G : Nat → Int} (h0 : G 0 = g 0) (h1 : G 1 = g 1) (x y : Int) (s : Bool) : hurIs G x y s = hurIs g x y s := by
  unfold hurIs isB
  rw [h0, h1]
def allH (g : Nat → Int) (hs : Nat → Nat → Int) (n : Nat) : Bool := (List.range n).all fun i => hurIs g (hs i 0) (hs i 1) (hs i 2 == 1)
theorem allH_no {g : Nat → Int} {hs : Nat → Nat → Int} {n i : Nat} (hi : i < n) (h : hurIs g (hs i 0) (hs i 1) (hs i 2 == 1) = false) : allH g hs n = false := by
  cases e : allH g hs n
  · rfl
  · have := List.all_eq_true.1 e i (by simpa using hi); rw [h] at this; cases this
theorem allH_yes {g : Nat → Int} {hs : Nat → Nat → Int} {n : Nat} (h : ∀ i, i < n → hurIs g (hs i 0) (hs i 1) (hs i 2 == 1) = true) : allH g hs n = true :=
  List.all_eq_true.2 fun i hi => h i (by simpa using hi)
theorem allH_at {g : Nat → Int} {hs : Nat → Nat → Int} {n i : Nat} (h : allH g hs n = true) (hi : i < n) : hurIs g (hs i 0) (hs i 1) (hs i 2 == 1) = true := List.all_eq_true.1 h i (by simpa using hi)
/-- The first that cannot be. -/
theorem allH_first {g : Nat → Int} {hs : Nat → Nat → Int} {n : Nat} (h : allH g hs n = false) : ∃ k, k < n ∧ hurIs g (hs k 0) (hs k 1) (hs k 2 == 1) = false ∧ ∀ j, j < k → hurIs g (hs j 0) (hs j 1) (hs j 2 == 1) = true := by
  induction n with
  | zero => cases h
  | succ n ih =>
    cases e : allH g hs n
    · obtain ⟨k, hk, h1, h2⟩ := ih e
      exact ⟨k, by omega, h1, h2⟩
    · refine ⟨n, by omega, ?_, fun j hj => allH_at e hj⟩
      cases e2 : hurIs g (hs n 0) (hs n 1) (hs n 2 == 1)
      · rfl
      · have : allH g hs (n + 1) = true := allH_yes fun i hi => by
          by_cases h3 : i = n
          · rw [h3]; exact e2
          · exact allH_at e (by omega)
        rw [this] at h; cases h
/-- The code, and the pasture. -/
def putC (g : Nat → Int) (hs : Nat → Nat → Int) (n : Nat) : Int := if okB g then (if allH g hs n then 0 else 2) else 1
def putP (g : Nat → Int) (hs : Nat → Nat → Int) (on : Bool) (n : Nat) : Nat → Int := if putC g hs n = 0 then putsH g hs on n else g0
theorem putC_bad {g : Nat → Int} {hs : Nat → Nat → Int} {n : Nat} (h : okB g = false) : putC g hs n = 1 := by simp [putC, h]
theorem putC_no {g : Nat → Int} {hs : Nat → Nat → Int} {n : Nat} (h : okB g = true) (h2 : allH g hs n = false) : putC g hs n = 2 := by simp [putC, h, h2]
theorem putC_ok {g : Nat → Int} {hs : Nat → Nat → Int} {n : Nat} (h : okB g = true) (h2 : allH g hs n = true) : putC g hs n = 0 := by simp [putC, h, h2]
theorem putP_no {g : Nat → Int} {hs : Nat → Nat → Int} {on : Bool} {n : Nat} (h : putC g hs n ≠ 0) : putP g hs on n = g0 := by unfold putP; rw [if_neg h]
theorem putP_ok {g : Nat → Int} {hs : Nat → Nat → Int} {on : Bool} {n : Nat} (h : putC g hs n = 0) : putP g hs on n = putsH g hs on n := by unfold putP; rw [if_pos h]
theorem okB_most {g : Nat → Int} (h : okB g = true) : g 0 ≤ 10 ∧ g 1 ≤ 10 := by
  unfold okB at h
  rw [Bool.and_eq_true, Bool.and_eq_true] at h
  have a1 := inB_true h.1.1
  have a2 := inB_true h.1.2
  omega
theorem hurIs_in {g : Nat → Int} {x y : Int} {s : Bool} (h0 : g 0 ≤ 10) (h1 : g 1 ≤ 10) (h : hurIs g x y s = true) : (0 ≤ x ∧ x ≤ 9) ∧ (0 ≤ y ∧ y ≤ 9) := by
  unfold hurIs at h
  rw [Bool.and_eq_true] at h
  exact isB_in h0 h1 h.1
theorem hur3 (hs : Nat → Nat → Int) (k : Nat) : arr 3 (fun j => sHurdle hs (k * 3 + j)) = arr 3 (hd (hs k 0) (hs k 1) (hs k 2 == 1)) := arr_congr fun j hj => sHurdle_row hs k j hj
theorem hur2 (hs : Nat → Nat → Int) (k : Nat) : arr 2 (fun j => sHurdle hs (k * 3 + j)) = arr 2 (sp (hs k 0) (hs k 1)) := (arr_congr fun j hj => by rw [sHurdle_row hs k j (by omega)]; simp).trans (spHurdle0 (hs k))

set_option maxRecDepth 100000 in
set_option maxHeartbeats 2000000 in
theorem l03Put_any (g : Nat → Int) (b n c : Nat) (hs : Nat → Nat → Int) (on : Bool) (hH : ∀ i, i < n → (0 ≤ hs i 0 ∧ hs i 0 ≤ 9) ∧ (0 ≤ hs i 1 ∧ hs i 1 ≤ 9)) (hn : n ≤ 1048576) (w : World) (hB : At w b (n * 3) (sHurdle hs)) :
    Calls Tryd.prog 15 #[.agg (arr 122 (pas g)), .slice (some ⟨b, 0, none⟩) n c, .bool on] w fun e w' => e = .returned (.agg (arr 122 (pas (putsH g hs on n)))) ∧ Below w.heap.size w w' := by
  have hM : Mem w [(b, n * 3, sHurdle hs)] w := (Mem.nil w).old hB (fun i p h => by simp at h)
  have HH := Lib.hid hH
  clear hB hH
  have tk_b3 : True := trivial; have tk_b6 : True := trivial
  go_enter Tryd.func15, Tryd.ntmps15
  go_wp2_with (first | (have _t := tk_b3; refine wpList_box rfl _ _ rfl _ _ rfl hM ?_; intro b3 W' hb3 hM'; clear hM tk_b3; have hM := hM'; clear hM') | (have _t := tk_b6; refine wpList_zero rfl _ rfl (zeroTab _ _ _ rfl) hM ?_; intro b6 W' hb6 hM'; clear hM tk_b6; have hM := hM'; clear hM'))
  go_loopw [7] (fun i wr => ∃ k : Nat, k ≤ n ∧ i = .int .i64 k ∧ Mem w [(b6, 122, zP), (b3, 122, pas (putsH g hs on k)), (b, n * 3, sHurdle hs)] wr) (fun i _ => n - (intOf i).toNat)
  case atStart => exact ⟨0, by omega, rfl, hM⟩
  case round =>
    clear hM
    obtain ⟨k, hk, rfl, hM⟩ := hrel
    by_cases hlt : k < n
    · have l2 : (k : Int) < n := by omega
      have hh := HH.out k hlt
      have e3 := hur3 hs k
      have e2 := hur2 hs k
      have HP := Lib.hid (show putsH g hs on (k + 1) = putH (putsH g hs on k) (hs k 0).toNat (hs k 1).toNat (hs k 2 == 1) on from rfl)
      obtain ⟨x, hx⟩ : ∃ x : Nat, hs k 0 = x := ⟨(hs k 0).toNat, by omega⟩
      obtain ⟨y, hy⟩ : ∃ y : Nat, hs k 1 = y := ⟨(hs k 1).toNat, by omega⟩
      generalize (hs k 2 == 1) = s at e3 HP
      rw [hx, hy] at e3 e2 HP
      rw [hx, hy] at hh
      simp only [Int.toNat_natCast] at HP
      clear hx hy
      go_wp2
      ((try simp only [Act.put, List.setIfInBounds_toArray, List.set_cons_succ, List.set_cons_zero]); refine region_head_mem (m := 11) (by kernel_rfl) (by kernel_rfl) hM ?_; clear hM; simp only [List.take_succ_cons, List.take_zero, List.drop_succ_cons, List.drop_zero]; (repeat (first | go_big_quiet_skip | (go_big_quiet_want; first | (refine quiet_get _ _ rfl _ _ rfl 2 rfl (rowTab _ 2 rfl) (by omega) ?_; (simp only [e2]); (simp only [Act.put, List.setIfInBounds_toArray, List.set_cons_succ, List.set_cons_zero]); go_big_quiet_on) | (refine quiet_get _ _ rfl _ _ rfl 2 rfl (rowTab _ 3 rfl) (by omega) ?_; (simp only [e3]); (simp only [Act.put, List.setIfInBounds_toArray, List.set_cons_succ, List.set_cons_zero]); go_big_quiet_on) | (refine quiet_call ?_; apply Exists.intro; apply Exists.intro; apply Exists.intro; refine ⟨fun W => ?_, fun W hM => ?_, ?_⟩; (go_simp; exact ⟨rfl, rfl⟩); (exact l03Side_any (x : Int) (y : Int) s W); (simp only [Act.put, List.setIfInBounds_toArray, List.set_cons_succ, List.set_cons_zero]); go_big_quiet_on) | (refine quiet_val ?_; apply Exists.intro; refine ⟨fun W => ?_, ?_⟩; (go_simp; (try simp only [l2, if_true, Bool.false_eq_true, if_false]); rfl); (simp only [Act.put, List.setIfInBounds_toArray, List.set_cons_succ, List.set_cons_zero]); go_big_quiet_on)))); (with_reducible refine wpQuiet_nil ?_); intro W' hM)
      go_wp2_with (first | (go_at_call 25; refine (l01Set_hur _ _ _ _ b3 _ _ (by assumption) x y (by omega) (by omega) s on _ hM).mono ?_; rintro e W' ⟨rfl, hM'⟩; clear hM; have hM := hM'; clear hM'))
      go_roundw
      case rel => exact ⟨k + 1, by omega, by go_num, by rw [HP.out]; exact hM⟩
      case measure => simp [intOf]; omega
    · obtain rfl : k = n := by omega
      go_wp2_with (first | (refine wpList_get rfl _ _ rfl _ _ rfl hM 1 rfl (rowTab _ _ rfl) (by omega) ?_) | (refine wpList_lay rfl _ _ _ rfl _ _ rfl _ _ rfl hM 0 rfl (by assumption) (rowTab _ _ rfl) (by omega) ?_ ?_; (first | (intro _ _; rfl) | (intro k _; exact h1 _) | (intro k _; simp only [lay, upd]; (repeat' split) <;> first | exact h1 _ | rfl)); intro W' hM'; clear hM; have hM := hM'; clear hM'; simp only [List.set] at hM))
      exact bodyPost_ret (results_at rfl _ rfl ((hM.ats 0 _ _ _ rfl).congr (fun j hj => by simp only [lay, Nat.zero_add, Nat.sub_zero]; rw [if_pos ⟨by omega, hj⟩])) (rowTab _ _ rfl)) rfl ⟨rfl, hM.below⟩

set_option maxRecDepth 100000 in
set_option maxHeartbeats 2000000 in
theorem l03Asked_any (g : Nat → Int) (hg : Fits g) (bp b n c : Nat) (hs : Nat → Nat → Int) (hF : ∀ i, i < n → FitsHurdle (hs i)) (hn : n ≤ 1048576) (hne : bp ≠ b) (w : World) (hA : At w bp 122 (pas g)) (hB : At w b (n * 3) (sHurdle hs)) :
    Calls Tryd.prog 14 #[.pointer (some ⟨bp, 0, none⟩), .slice (some ⟨b, 0, none⟩) n c] w fun e w' => e = .returned (.int .i64 (putC g hs n)) ∧ Below w.heap.size w w' := by
  have hM : Mem w [(bp, 122, pas g), (b, n * 3, sHurdle hs)] w := ((Mem.nil w).old hA (fun i p h => by simp at h)).old hB (fun i p h => by
    rcases i with _ | i
    · simp at h; rw [← h]; exact hne
    · simp at h)
  have HF := Lib.hid hF
  clear hA hB hF
  cases ho : okB g
  · have Hc : Hid (putC g hs n = 1) := Lib.hid (putC_bad ho)
    have Ho := Lib.hid ho
    clear ho
    go_enter Tryd.func14, Tryd.ntmps14
    go_wp2_with (first | (go_at_call 23; refine (l01Ok_any g hg _ _ (hM.ats 0 _ _ _ rfl)).mono ?_; rintro e W' ⟨rfl, hb'⟩; rw [Ho.out]; have hM' := hM.call hb'; clear hM hb'; have hM := hM'; clear hM'))
    go_ret
    exact ⟨ret_i Hc.out.symm, hM.below⟩
  · obtain ⟨g0, g1⟩ := okB_most ho
    have G0 := Lib.hid g0
    have G1 := Lib.hid g1
    have Ho := Lib.hid ho
    clear ho g0 g1
    go_enter Tryd.func14, Tryd.ntmps14
    go_wp2_with (first | (go_at_call 23; refine (l01Ok_any g hg _ _ (hM.ats 0 _ _ _ rfl)).mono ?_; rintro e W' ⟨rfl, hb'⟩; rw [Ho.out]; have hM' := hM.call hb'; clear hM hb'; have hM := hM'; clear hM'))
    go_loopw [5] (fun i wr => ∃ k : Nat, k ≤ n ∧ i = .int .i64 k ∧ Hid (∀ j, j < k → hurIs g (hs j 0) (hs j 1) (hs j 2 == 1) = true) ∧ Mem w [(bp, 122, pas g), (b, n * 3, sHurdle hs)] wr) (fun i _ => n - (intOf i).toNat)
    case atStart => exact ⟨0, by omega, rfl, Lib.hid (fun j hj => absurd hj (by omega)), hM⟩
    case round =>
      clear hM
      obtain ⟨k, hk, rfl, hall, hM⟩ := hrel
      by_cases hlt : k < n
      · have l2 : (k : Int) < n := by omega
        obtain ⟨f0, f1, f2⟩ := HF.out k hlt
        have e3 := hur3 hs k
        cases he : hurIs g (hs k 0) (hs k 1) (hs k 2 == 1)
        all_goals
          have Hc : Hid (hurIs g (hs k 0) (hs k 1) (hs k 2 == 1) = _) := Lib.hid he
          clear he
          go_wp2_with (first | (go_at_call 24; (with_reducible refine (l03Is_any g hg G0.out G1.out _ (hs k 0) (hs k 1) (hs k 2 == 1) f0 f1 _ (hM.ats 0 _ _ _ rfl)).mono ?_); rintro e W' ⟨rfl, hb'⟩; rw [Hc.out]; have hM' := hM.call hb'; clear hM hb'; have hM := hM'; clear hM') | ((refine wpList_get rfl _ _ rfl _ _ rfl hM 1 rfl (rowTab _ 3 rfl) (by omega) ?_); rw [e3]))
        · go_ret
          exact ⟨ret_i (putC_no Ho.out (allH_no hlt Hc.out)).symm, hM.below⟩
        · go_roundw
          case rel => exact ⟨k + 1, by omega, by go_num, Lib.hid (fun j hj => by
            by_cases e : j = k
            · rw [e]; exact Hc.out
            · exact hall.out j (by omega)), hM⟩
          case measure => simp [intOf]; omega
      · obtain rfl : k = n := by omega
        have Hc : Hid (putC g hs k = 0) := Lib.hid (putC_ok Ho.out (allH_yes hall.out))
        go_wp2
        go_ret
        exact ⟨ret_i Hc.out.symm, hM.below⟩

set_option maxRecDepth 100000 in
set_option maxHeartbeats 2000000 in
theorem specAddHurdles_any (g : Nat → Int) (hg : Fits g) (b n c : Nat) (hs : Nat → Nat → Int) (hF : ∀ i, i < n → FitsHurdle (hs i)) (hn : n ≤ 1048576) (w : World) (hB : At w b (n * 3) (sHurdle hs)) :
    Calls Tryd.prog 6 #[.agg (arr 122 (pas g)), .slice (some ⟨b, 0, none⟩) n c] w fun e w' => e = .returned (pasR (putP g hs true n) (putC g hs n)) ∧ Below w.heap.size w w' := by
  have hM : Mem w [(b, n * 3, sHurdle hs)] w := (Mem.nil w).old hB (fun i p h => by simp at h)
  have HF := Lib.hid hF
  clear hB hF
  by_cases hc : putC g hs n = 0
  · have Hc := Lib.hid hc
    have hH : ∀ i, i < n → (0 ≤ hs i 0 ∧ hs i 0 ≤ 9) ∧ (0 ≤ hs i 1 ∧ hs i 1 ≤ 9) := fun i hi => by
      unfold putC at hc
      cases ho : okB g
      · rw [ho] at hc; simp at hc
      · cases ha : allH g hs n
        · rw [ho, ha] at hc; simp at hc
        · obtain ⟨a0, a1⟩ := okB_most ho
          exact hurIs_in a0 a1 (allH_at ha hi)
    have HH := Lib.hid hH
    have HP := Lib.hid (putP_ok (on := true) hc)
    clear hc hH
    have tk_b2 : True := trivial; have tk_b4 : True := trivial
    go_enter Tryd.func6, Tryd.ntmps6
    go_wp2_with (first | (have _t := tk_b2; refine wpList_box rfl _ _ rfl _ _ rfl hM ?_; intro b2 W' hb2 hM'; clear hM tk_b2; have hM := hM'; clear hM') | (have _t := tk_b4; refine wpList_zero rfl _ rfl (zeroTab _ _ _ rfl) hM ?_; intro b4 W' hb4 hM'; clear hM tk_b4; have hM := hM'; clear hM') | (go_at_call 14; refine (l03Asked_any g hg b2 b n c hs HF.out hn (hM.apart 1 2 _ _ rfl rfl (by omega)) _ (hM.ats 1 _ _ _ rfl) (hM.ats 2 _ _ _ rfl)).mono ?_; rintro e W' ⟨rfl, hb'⟩; rw [Hc.out]; have hM' := hM.call hb'; clear hM hb'; have hM := hM'; clear hM') | (refine wpList_get rfl _ _ rfl _ _ rfl hM 1 rfl (rowTab _ _ rfl) (by omega) ?_) | (go_at_call 15; refine (l03Put_any g b n c hs true HH.out hn _ (hM.ats 2 _ _ _ rfl)).mono ?_; rintro e W' ⟨rfl, hb'⟩; have hM' := hM.call hb'; clear hM hb'; have hM := hM'; clear hM') | (refine wpList_lay rfl _ _ _ rfl _ _ rfl _ _ rfl hM 0 rfl (by assumption) (rowTab _ _ rfl) (by omega) ?_ ?_; (first | (intro _ _; rfl) | (intro k _; exact h1 _) | (intro k _; simp only [lay, upd]; (repeat' split) <;> first | exact h1 _ | rfl)); intro W' hM'; clear hM; have hM := hM'; clear hM'; simp only [List.set] at hM))
    exact bodyPost_ret (results_at2 rfl _ rfl ((hM.ats 0 _ _ _ rfl).congr (lay_pas _ _)) (rowTab _ _ rfl) _ rfl) rfl ⟨ret_pas (by rw [HP.out]) Hc.out.symm, hM.below⟩
  · obtain ⟨d, hd⟩ : ∃ d, putC g hs n = d := ⟨_, rfl⟩
    have HP := Lib.hid (putP_no (on := true) hc)
    rw [hd] at hc
    have hc2 : d = 1 ∨ d = 2 := by
      unfold putC at hd
      split at hd
      · split at hd
        · omega
        · omega
      · omega
    have Hd := Lib.hid hd
    clear hc hd
    rcases hc2 with rfl | rfl
    all_goals
      have tk_b2 : True := trivial; have tk_b4 : True := trivial
      go_enter Tryd.func6, Tryd.ntmps6
      go_wp2_with (first | (have _t := tk_b2; refine wpList_box rfl _ _ rfl _ _ rfl hM ?_; intro b2 W' hb2 hM'; clear hM tk_b2; have hM := hM'; clear hM') | (have _t := tk_b4; refine wpList_zero rfl _ rfl (zeroTab _ _ _ rfl) hM ?_; intro b4 W' hb4 hM'; clear hM tk_b4; have hM := hM'; clear hM') | (go_at_call 14; refine (l03Asked_any g hg b2 b n c hs HF.out hn (hM.apart 1 2 _ _ rfl rfl (by omega)) _ (hM.ats 1 _ _ _ rfl) (hM.ats 2 _ _ _ rfl)).mono ?_; rintro e W' ⟨rfl, hb'⟩; rw [Hd.out]; have hM' := hM.call hb'; clear hM hb'; have hM := hM'; clear hM') | (refine wpList_lay rfl _ _ _ rfl _ _ rfl _ _ rfl hM 0 rfl (by assumption) (rowTab _ _ rfl) (by omega) ?_ ?_; (first | (intro _ _; rfl) | (intro k _; exact h1 _) | (intro k _; simp only [lay, upd]; (repeat' split) <;> first | exact h1 _ | rfl)); intro W' hM'; clear hM; have hM := hM'; clear hM'; simp only [List.set] at hM))
      exact bodyPost_ret (results_at2 rfl _ rfl ((hM.ats 0 _ _ _ rfl).congr (lay_zP _)) (rowTab _ _ rfl) _ rfl) rfl ⟨ret_pas (by rw [HP.out]) Hd.out.symm, hM.below⟩

set_option maxRecDepth 100000 in
set_option maxHeartbeats 2000000 in
theorem specTakeHurdles_any (g : Nat → Int) (hg : Fits g) (b n c : Nat) (hs : Nat → Nat → Int) (hF : ∀ i, i < n → FitsHurdle (hs i)) (hn : n ≤ 1048576) (w : World) (hB : At w b (n * 3) (sHurdle hs)) :
    Calls Tryd.prog 12 #[.agg (arr 122 (pas g)), .slice (some ⟨b, 0, none⟩) n c] w fun e w' => e = .returned (pasR (putP g hs false n) (putC g hs n)) ∧ Below w.heap.size w w' := by
  have hM : Mem w [(b, n * 3, sHurdle hs)] w := (Mem.nil w).old hB (fun i p h => by simp at h)
  have HF := Lib.hid hF
  clear hB hF
  by_cases hc : putC g hs n = 0
  · have Hc := Lib.hid hc
    have hH : ∀ i, i < n → (0 ≤ hs i 0 ∧ hs i 0 ≤ 9) ∧ (0 ≤ hs i 1 ∧ hs i 1 ≤ 9) := fun i hi => by
      unfold putC at hc
      cases ho : okB g
      · rw [ho] at hc; simp at hc
      · cases ha : allH g hs n
        · rw [ho, ha] at hc; simp at hc
        · obtain ⟨a0, a1⟩ := okB_most ho
          exact hurIs_in a0 a1 (allH_at ha hi)
    have HH := Lib.hid hH
    have HP := Lib.hid (putP_ok (on := false) hc)
    clear hc hH
    have tk_b2 : True := trivial; have tk_b4 : True := trivial
    go_enter Tryd.func12, Tryd.ntmps12
    go_wp2_with (first | (have _t := tk_b2; refine wpList_box rfl _ _ rfl _ _ rfl hM ?_; intro b2 W' hb2 hM'; clear hM tk_b2; have hM := hM'; clear hM') | (have _t := tk_b4; refine wpList_zero rfl _ rfl (zeroTab _ _ _ rfl) hM ?_; intro b4 W' hb4 hM'; clear hM tk_b4; have hM := hM'; clear hM') | (go_at_call 14; refine (l03Asked_any g hg b2 b n c hs HF.out hn (hM.apart 1 2 _ _ rfl rfl (by omega)) _ (hM.ats 1 _ _ _ rfl) (hM.ats 2 _ _ _ rfl)).mono ?_; rintro e W' ⟨rfl, hb'⟩; rw [Hc.out]; have hM' := hM.call hb'; clear hM hb'; have hM := hM'; clear hM') | (refine wpList_get rfl _ _ rfl _ _ rfl hM 1 rfl (rowTab _ _ rfl) (by omega) ?_) | (go_at_call 15; refine (l03Put_any g b n c hs false HH.out hn _ (hM.ats 2 _ _ _ rfl)).mono ?_; rintro e W' ⟨rfl, hb'⟩; have hM' := hM.call hb'; clear hM hb'; have hM := hM'; clear hM') | (refine wpList_lay rfl _ _ _ rfl _ _ rfl _ _ rfl hM 0 rfl (by assumption) (rowTab _ _ rfl) (by omega) ?_ ?_; (first | (intro _ _; rfl) | (intro k _; exact h1 _) | (intro k _; simp only [lay, upd]; (repeat' split) <;> first | exact h1 _ | rfl)); intro W' hM'; clear hM; have hM := hM'; clear hM'; simp only [List.set] at hM))
    exact bodyPost_ret (results_at2 rfl _ rfl ((hM.ats 0 _ _ _ rfl).congr (lay_pas _ _)) (rowTab _ _ rfl) _ rfl) rfl ⟨ret_pas (by rw [HP.out]) Hc.out.symm, hM.below⟩
  · obtain ⟨d, hd⟩ : ∃ d, putC g hs n = d := ⟨_, rfl⟩
    have HP := Lib.hid (putP_no (on := false) hc)
    rw [hd] at hc
    have hc2 : d = 1 ∨ d = 2 := by
      unfold putC at hd
      split at hd
      · split at hd
        · omega
        · omega
      · omega
    have Hd := Lib.hid hd
    clear hc hd
    rcases hc2 with rfl | rfl
    all_goals
      have tk_b2 : True := trivial; have tk_b4 : True := trivial
      go_enter Tryd.func12, Tryd.ntmps12
      go_wp2_with (first | (have _t := tk_b2; refine wpList_box rfl _ _ rfl _ _ rfl hM ?_; intro b2 W' hb2 hM'; clear hM tk_b2; have hM := hM'; clear hM') | (have _t := tk_b4; refine wpList_zero rfl _ rfl (zeroTab _ _ _ rfl) hM ?_; intro b4 W' hb4 hM'; clear hM tk_b4; have hM := hM'; clear hM') | (go_at_call 14; refine (l03Asked_any g hg b2 b n c hs HF.out hn (hM.apart 1 2 _ _ rfl rfl (by omega)) _ (hM.ats 1 _ _ _ rfl) (hM.ats 2 _ _ _ rfl)).mono ?_; rintro e W' ⟨rfl, hb'⟩; rw [Hd.out]; have hM' := hM.call hb'; clear hM hb'; have hM := hM'; clear hM') | (refine wpList_lay rfl _ _ _ rfl _ _ rfl _ _ rfl hM 0 rfl (by assumption) (rowTab _ _ rfl) (by omega) ?_ ?_; (first | (intro _ _; rfl) | (intro k _; exact h1 _) | (intro k _; simp only [lay, upd]; (repeat' split) <;> first | exact h1 _ | rfl)); intro W' hM'; clear hM; have hM := hM'; clear hM'; simp only [List.set] at hM))
      exact bodyPost_ret (results_at2 rfl _ rfl ((hM.ats 0 _ _ _ rfl).congr (lay_zP _)) (rowTab _ _ rfl) _ rfl) rfl ⟨ret_pas (by rw [HP.out]) Hd.out.symm, hM.below⟩
end Go.Proofs.YtofgkmoilncfpaaDoor

/-
  impl.Pasture.demand, set, setAll (with what it defers), putAll by contracts.
-/
namespace Go.Proofs.YtofgkmoilncfpaaDoor
open Go Go.RowKit Go.BigFrame Go.Extern.Stop Go.Stop Go.Extern

theorem is_nilH (v : Addr) (w : World) : Calls Tryd.prog 40 #[.nilIface, errV v] w fun e w' => e = .returned (.bool false) ∧ w = w' := by
  have heq : ∀ p (w : World), (binOp .eql 65 .nilIface (.iface 116 p)).run Tryd.prog w = .ok (.bool false) w := fun p w => by kernel_rfl
  unfold errV
  go_enter Tryd.func40, Tryd.ntmps40
  go_wp2
  go_ret
  exact ⟨rfl, rfl⟩

set_option maxRecDepth 100000 in
set_option maxHeartbeats 4000000 in
theorem codeOf_nilH {a : Nat → Addr} {w : World} (h : Errs a w) :
    Calls Tryd.prog 30 #[.nilIface] w fun e w' => e = .returned (.int .i64 0) ∧ w = w' := by
  have v0 : w.cell? ⟨0, 0, none⟩ = some (errV (a 0)) := h.vars 0 (by omega)
  have v1 : w.cell? ⟨1, 0, none⟩ = some (errV (a 1)) := h.vars 1 (by omega)
  have v5 : w.cell? ⟨2, 0, none⟩ = some (errV (a 5)) := h.vars 5 (by omega)
  have v2 : w.cell? ⟨3, 0, none⟩ = some (errV (a 2)) := h.vars 2 (by omega)
  have v3 : w.cell? ⟨4, 0, none⟩ = some (errV (a 3)) := h.vars 3 (by omega)
  have v4 : w.cell? ⟨5, 0, none⟩ = some (errV (a 4)) := h.vars 4 (by omega)
  have v6 : w.cell? ⟨6, 0, none⟩ = some (errV (a 6)) := h.vars 6 (by omega)
  clear h
  go_enter Tryd.func30, Tryd.ntmps30
  go_wp2_with (first | (go_at_call 40; (with_reducible refine (is_nilH _ _).mono ?_); rintro e W' ⟨rfl, rfl⟩))
  go_ret
  exact ⟨rfl, rfl⟩


theorem codeNil_any {a : Nat → Addr} {w : World} (h : Errs a w) :
    Calls Tryd.prog 30 #[.nilIface] w fun e w' => e = .returned (.int .i64 0) ∧ Below w.heap.size w w' :=
  (codeOf_nilH h).mono fun e w' ⟨h1, h2⟩ => ⟨h1, h2 ▸ Below.refl _ _⟩
theorem codeOne_any {a : Nat → Addr} {w : World} (h : Errs a w) :
    Calls Tryd.prog 30 #[errV (a 1)] w fun e w' => e = .returned (.int .i64 2) ∧ Below w.heap.size w w' :=
  (codeOf_1 h).mono fun e w' ⟨h1, h2⟩ => ⟨h1, h2 ▸ Below.refl _ _⟩
theorem results_cellsH {P : Program} {fn : Func} {p q : Tmp} {t u : TypeId} (h : fn.results = #[.cell p t, .cell q u]) (tmps : Array Value) {W : World} {b n : Nat} {f : Nat → Value} {b2 : Nat} {v : Value}
    (hp : tmps.getD p undef = .pointer (some ⟨b, 0, none⟩)) (hg : At W b n f) (hT : RowT P t n) (hq : tmps.getD q undef = .pointer (some ⟨b2, 0, none⟩)) (hv : W.cell? ⟨b2, 0, none⟩ = some v) (hU : CellT P u) :
    (results fn tmps).run P W = .ok (.tuple #[.agg (arr n f), v]) W := by
  have h1 : (asAddr (.pointer (some ⟨b, 0, none⟩))).run P W = .ok ⟨b, 0, none⟩ W := rfl
  have h2 : (asAddr (.pointer (some ⟨b2, 0, none⟩))).run P W = .ok ⟨b2, 0, none⟩ W := rfl
  have hp' : tmps[p]?.getD undef = .pointer (some ⟨b, 0, none⟩) := by simpa using hp
  have hq' : tmps[q]?.getD undef = .pointer (some ⟨b2, 0, none⟩) := by simpa using hq
  simp only [results, h]
  simp [Sem.run_bind, Result.andThen, hp', hq', h1, h2, loadVar_at hg hT, run_load_cell hU hv]

/-- What stands for a hurdle that cannot be. -/
def mispV (x y : Int) (s : Bool) : Value := .iface 93 (.agg (arr 3 (hd x y s)))
theorem ta_misp (v : Value) (w : World) : (Instr.typeAssert (.iface 93 v) 20 82 true).run Tryd.prog w = .ok (.tuple #[.iface 93 v, .bool true]) w := by kernel_rfl
theorem ta_noneH (w : World) : (Instr.typeAssert .nilIface 20 82 true).run Tryd.prog w = .ok (.tuple #[.nilIface, .bool false]) w := by kernel_rfl
theorem method_refusalH (v : Value) (w : World) : (Go.method 253 93 v "loop.example/g01345/impl.refusal").run Tryd.prog w = .ok (78, v) w := by kernel_rfl

set_option maxRecDepth 100000 in
theorem demandH_ok (g : Nat → Int) (h0 : g 0 ≤ 10) (h1 : g 1 ≤ 10) (x y : Int) (s : Bool) (hh : hurIs g x y s = true) (w : World) :
    Calls Tryd.prog 42 #[.agg (arr 122 (pas g)), .agg (arr 3 (hd x y s))] w fun e w' => e = .returned (.tuple #[]) ∧ Below w.heap.size w w' := by
  have hM := Mem.nil w
  have HH := Lib.hid hh
  clear hh
  have tk_b2 : True := trivial; have tk_b3 : True := trivial
  go_enter Tryd.func42, Tryd.ntmps42
  go_wp2_with (first | (have _t := tk_b2; refine wpList_box rfl _ _ rfl _ _ rfl hM ?_; intro b2 W' hb2 hM'; clear hM tk_b2; have hM := hM'; clear hM') | (have _t := tk_b3; refine wpList_box rfl _ _ rfl _ _ rfl hM ?_; intro b3 W' hb3 hM'; clear hM tk_b3; have hM := hM'; clear hM') | (refine wpList_get rfl _ _ rfl _ _ rfl hM 1 rfl (rowTab _ _ rfl) (by omega) ?_) | (refine wpList_get rfl _ _ rfl _ _ rfl hM 0 rfl (rowTab _ _ rfl) (by omega) ?_) | (go_at_call 48; refine (canHave_any g h0 h1 x y s _).mono ?_; rintro e W' ⟨rfl, hb'⟩; rw [HH.out]; have hM' := hM.call hb'; clear hM hb'; have hM := hM'; clear hM'))
  go_end0
  exact ⟨rfl, hM.below⟩
set_option maxRecDepth 100000 in
theorem demandH_no (g : Nat → Int) (h0 : g 0 ≤ 10) (h1 : g 1 ≤ 10) (x y : Int) (s : Bool) (hh : hurIs g x y s = false) (w : World) :
    Calls Tryd.prog 42 #[.agg (arr 122 (pas g)), .agg (arr 3 (hd x y s))] w fun e w' => e = .panicked [{ v := mispV x y s, recovered := false }] ∧ Below w.heap.size w w' := by
  have hM := Mem.nil w
  have HH := Lib.hid hh
  have es : arr 3 (fun j => hd x y s (0 + j)) = arr 3 (hd x y s) := arr_congr fun j hj => by rw [Nat.zero_add]
  clear hh
  have tk_b2 : True := trivial; have tk_b3 : True := trivial
  go_enter Tryd.func42, Tryd.ntmps42
  go_wp2_with (first | (have _t := tk_b2; refine wpList_box rfl _ _ rfl _ _ rfl hM ?_; intro b2 W' hb2 hM'; clear hM tk_b2; have hM := hM'; clear hM') | (have _t := tk_b3; refine wpList_box rfl _ _ rfl _ _ rfl hM ?_; intro b3 W' hb3 hM'; clear hM tk_b3; have hM := hM'; clear hM') | (refine wpList_get rfl _ _ rfl _ _ rfl hM 1 rfl (rowTab _ _ rfl) (by omega) ?_) | (refine wpList_get rfl _ _ rfl _ _ rfl hM 0 rfl (rowTab _ _ rfl) (by omega) ?_) | (go_at_call 48; refine (canHave_any g h0 h1 x y s _).mono ?_; rintro e W' ⟨rfl, hb'⟩; rw [HH.out]; have hM' := hM.call hb'; clear hM hb'; have hM := hM'; clear hM'))
  exact ⟨rfl, by unfold mispV; simp, hM.below⟩

set_option maxRecDepth 100000 in
set_option maxHeartbeats 1000000 in
theorem setH_any (g : Nat → Int) (x y : Nat) (hx : x ≤ 9) (hy : y ≤ 9) (s on : Bool) (w : World) :
    Calls Tryd.prog 43 #[.agg (arr 122 (pas g)), .agg (arr 3 (hd x y s)), .bool on] w fun e w' => e = .returned (.agg (arr 122 (pas (putH g x y s on)))) ∧ Below w.heap.size w w' := by
  have hM := Mem.nil w
  have hs := hd_sp (x : Int) (y : Int) s
  have hw := fun (W : World) => withHurdle_any g (x : Int) (y : Int) (if s then 2 else 1) (by split <;> omega) (by omega) (by omega) (fun e => by split at e <;> omega) (fun e => by split at e <;> omega) on W
  have e1 : (((if s then 2 else 1 : Nat)) : Int) = sideN s := by cases s <;> rfl
  have e2 : setG g (sideRow (if s then 2 else 1) (y : Int)) (putR (g (sideRow (if s then 2 else 1) (y : Int))) (sideBit (if s then 2 else 1) (x : Int)) on) = putH g x y s on := by
    unfold putH rowH
    cases s <;> simp [sideRow, sideBit]
  simp only [e1, e2] at hw
  have HW := Lib.hid hw
  clear hw e1 e2
  have tk_b3 : True := trivial; have tk_b4 : True := trivial; have tk_b6 : True := trivial
  go_enter Tryd.func43, Tryd.ntmps43
  go_wp2_with (first | (have _t := tk_b3; refine wpList_box rfl _ _ rfl _ _ rfl hM ?_; intro b3 W' hb3 hM'; clear hM tk_b3; have hM := hM'; clear hM') | (have _t := tk_b4; refine wpList_box rfl _ _ rfl _ _ rfl hM ?_; intro b4 W' hb4 hM'; clear hM tk_b4; have hM := hM'; clear hM') | (have _t := tk_b6; refine wpList_zero rfl _ rfl (zeroTab _ _ _ rfl) hM ?_; intro b6 W' hb6 hM'; clear hM tk_b6; have hM := hM'; clear hM'))
  ((try simp only [Act.put, List.setIfInBounds_toArray, List.set_cons_succ, List.set_cons_zero]); refine region_head_mem (m := 7) (by kernel_rfl) (by kernel_rfl) hM ?_; clear hM; simp only [List.take_succ_cons, List.take_zero, List.drop_succ_cons, List.drop_zero]; (repeat (first | go_big_quiet_skip | (go_big_quiet_want; first | (refine quiet_get _ _ rfl _ _ rfl 1 rfl (rowTab _ 2 rfl) (by omega) ?_; (simp only [hs]); (simp only [Act.put, List.setIfInBounds_toArray, List.set_cons_succ, List.set_cons_zero]); go_big_quiet_on) | (refine quiet_get _ _ rfl _ _ rfl 2 rfl (rowTab _ _ rfl) (by omega) ?_; (simp only [Act.put, List.setIfInBounds_toArray, List.set_cons_succ, List.set_cons_zero]); go_big_quiet_on) | (refine quiet_get _ _ rfl _ _ rfl 1 rfl (rowTab _ _ rfl) (by omega) ?_; (simp only [Act.put, List.setIfInBounds_toArray, List.set_cons_succ, List.set_cons_zero]); go_big_quiet_on) | (refine quiet_call ?_; apply Exists.intro; apply Exists.intro; apply Exists.intro; refine ⟨fun W => ?_, fun W hM => ?_, ?_⟩; (go_simp; exact ⟨rfl, rfl⟩); (exact side_any (x : Int) (y : Int) s W); (simp only [Act.put, List.setIfInBounds_toArray, List.set_cons_succ, List.set_cons_zero]); go_big_quiet_on) | (refine quiet_call ?_; apply Exists.intro; apply Exists.intro; apply Exists.intro; refine ⟨fun W => ?_, fun W hM => ?_, ?_⟩; (go_simp; exact ⟨rfl, rfl⟩); (exact HW.out W); (simp only [Act.put, List.setIfInBounds_toArray, List.set_cons_succ, List.set_cons_zero]); go_big_quiet_on) | (refine quiet_val ?_; apply Exists.intro; refine ⟨fun W => ?_, ?_⟩; (go_simp; rfl); (simp only [Act.put, List.setIfInBounds_toArray, List.set_cons_succ, List.set_cons_zero]); go_big_quiet_on)))); (with_reducible refine wpQuiet_nil ?_); intro W' hM)
  go_wp2_with (first | (refine wpList_lay rfl _ _ _ rfl _ _ rfl _ _ rfl hM 0 rfl (by assumption) (rowTab _ _ rfl) (by omega) ?_ ?_; (first | (intro _ _; rfl) | (intro k _; exact h1 _) | (intro k _; simp only [lay, upd]; (repeat' split) <;> first | exact h1 _ | rfl)); intro W' hM'; clear hM; have hM := hM'; clear hM'; simp only [List.set] at hM))
  exact bodyPost_ret (results_at rfl _ rfl ((hM.ats 0 _ _ _ rfl).congr (lay_pas _ _)) (rowTab _ _ rfl)) rfl ⟨rfl, hM.below⟩

set_option maxRecDepth 100000 in
theorem refusalH_any {a : Nat → Addr} (x y : Int) (s : Bool) (w : World) (hE : Errs a w) :
    Calls Tryd.prog 78 #[.agg (arr 3 (hd x y s))] w fun e w' => e = .returned (errV (a 1)) ∧ Below w.heap.size w w' := by
  have hM := Mem.nil w
  have HE := Lib.hid hE
  clear hE
  have tk_b1 : True := trivial
  go_enter Tryd.func78, Tryd.ntmps78
  go_wp2_with (first | ((have _t := tk_b1; refine wpList_box rfl _ _ rfl _ _ rfl hM ?_; intro b1 W' hb1 hM'; clear hM tk_b1; have hM := hM'; clear hM'); have hE' := HE.out.below hM.below; have v1 : World.cell? _ ⟨1, 0, none⟩ = some (errV (a 1)) := hE'.vars 1 (by omega); clear hE'))
  go_ret
  exact ⟨rfl, hM.below⟩

set_option maxRecDepth 100000 in
theorem catchH_idle (p : Nat) (w : World) :
    CallsD Tryd.prog 41 #[.pointer (some ⟨p, 0, none⟩)] .returning w fun e u' w' => e = .returned (.tuple #[]) ∧ u' = .returning ∧ w' = w := by
  have h1 := ta_noneH
  refine callsD_of_wpS Tryd.func41 rfl fun c₀ cs hu => ?_
  apply wpS_seq
  apply wpS_region
  simp [wpOpsS, go_sem, recoverD, hu, Tryd.ntmps41, Exit.thenS, h1]
  refine wpS_of_wp ?_
  go_wp2
  cases c₀
  simp_all [bodyPostS, results, Tryd.results41]

set_option maxRecDepth 100000 in
set_option maxHeartbeats 1000000 in
theorem catchH_misp {a : Nat → Addr} (p : Nat) (v : Value) (x y : Int) (s : Bool) {b0 : Base} {L : Blocks} (w : World) (hM : Mem b0 ((p, 1, fun _ => v) :: L) w) (hp : b0.B ≤ p) (hE : Errs a w) :
    CallsD Tryd.prog 41 #[.pointer (some ⟨p, 0, none⟩)] (.panicking [{ v := mispV x y s, recovered := false }]) w fun e u' w' =>
      e = .returned (.tuple #[]) ∧ u' = .panicking [{ v := mispV x y s, recovered := true }] ∧ Mem b0 ((p, 1, fun _ => errV (a 1)) :: L) w' := by
  have h1 := ta_misp (.agg (arr 3 (hd x y s)))
  have h2 := method_refusalH (.agg (arr 3 (hd x y s)))
  have HR0 := fun (W : World) (h : Errs a W) => refusalH_any x y s W h
  unfold mispV
  obtain ⟨m, hm⟩ : ∃ m, Value.agg (arr 3 (hd x y s)) = m := ⟨_, rfl⟩
  rw [hm] at h1 h2 HR0 ⊢
  have HE := Lib.hid hE
  have HF := Lib.hid HR0
  clear hm hE HR0
  refine callsD_of_wpS Tryd.func41 rfl fun c₀ cs hu => ?_
  apply wpS_seq
  apply wpS_region
  simp [wpOpsS, go_sem, recoverD, hu, Tryd.ntmps41, Exit.thenS, h1]
  obtain ⟨R, hR⟩ : ∃ R : Ending → FrameMode → World → Prop, (fun e u' w' => e = Ending.returned (Value.tuple #[]) ∧ u' = FrameMode.panicking [{ v := .iface 93 m, recovered := true }] ∧ Mem b0 ((p, 1, fun _ => errV (a 1)) :: L) w') = R := ⟨_, rfl⟩
  rw [hR]
  have HR := Lib.hid hR
  clear hR hu h1
  refine wpS_of_wp ?_
  simp only [Array.replicate, List.replicate, List.append_toArray, List.setIfInBounds_toArray, List.set_cons_succ, List.set_cons_zero, List.cons_append, List.nil_append]
  go_wp2_with (first | (go_at_call 78; refine (HF.out _ HE.out).mono ?_; rintro e W' ⟨rfl, hb'⟩; have hM' := hM.call hb'; clear hM hb'; have hM := hM'; clear hM') | (refine wpList_set1 rfl _ _ _ rfl _ _ rfl (errV (a 1)) rfl rfl hM 0 rfl hp (cellTab _ rfl) (by omega) ?_; intro W2 hM'; clear hM; have hM := hM'; clear hM'; simp only [List.set] at hM))
  have hM2 := hM.re 0 rfl (fun _ => errV (a 1)) (fun k hk => by simp [upd]; omega)
  refine ⟨rfl, .panicking [{ v := .iface 93 m, recovered := true }], rfl, .tuple #[], ?_, ?_⟩
  · simp [results, Tryd.results41]
  · rw [← HR.out]
    exact ⟨rfl, rfl, hM2⟩
end Go.Proofs.YtofgkmoilncfpaaDoor

