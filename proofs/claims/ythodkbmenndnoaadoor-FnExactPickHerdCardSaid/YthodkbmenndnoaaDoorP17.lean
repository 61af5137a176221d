/-
  Several texts in one: JoinF, AddI, CheckGrass, ErrO.
-/
import Derived.Test.YthodkbmenndnoaaDoorP16
import Derived.Test.YthodkbmenndnoaaDoorP11
import Derived.Test.YthodkbmenndnoaaDoorP13
import Derived.Test.YthodkbmenndnoaaDoorP15
import Derived.Test.YthodkbmenndnoaaDoorP7
/-
  slices.IndexFunc, ContainsFunc over names, slices.Clone of goats, impl.members.joinedBy by contracts.
-/
namespace Go.Proofs.YthodkbmenndnoaaDoor
open Go Go.RowKit Go.BigFrame Go.Maps

def namedF (ma : Option Addr) (n c m : Nat) : Value := .func (.func 83) #[.agg (arr 2 (flkV ma n c m))] #[]
def IdxN (d e : Hd) (k : Nat) (w : World) (r : Ending) (w' : World) : Prop :=
  (∃ j : Nat, r = .returned (.int .i64 j) ∧ anyU d e k = true ∧ Below w.heap.size w w') ∨ (r = .returned (.int .i64 (-1)) ∧ anyU d e k = false ∧ Below w.heap.size w w')
set_option maxRecDepth 100000 in
set_option maxHeartbeats 2000000 in
theorem indexNamed {k : Nat} (d : Hd) (hd : FitsH d) (ma : Option Addr) (n c m : Nat) (e : Hd) (he : ∀ j, j < k → (e.ss j).size ≤ maxLen) (b cb N : Nat) (hk : k ≤ N) (hkb : k ≤ 1048576) (w : World) (hB : At w b N (vStringS e.ss)) (hO : w.heap[m]? = some (mapO kvS (keysU d d.n1) (putsU d d.n1))) :
    Calls Tryd.prog 112 #[.slice (some ⟨b, 0, none⟩) k cb, namedF ma n c m] w (IdxN d e k w) := by
  have hM := (Mem.nil w).withO (o := mapO kvS (keysU d d.n1) (putsU d d.n1)) rfl hO
  have HB := Lib.hid hB
  have HE := Lib.hid he
  have HND := Lib.hid (fun (s : ByteArray) (hs : s.size ≤ maxLen) (W : World) hO => isNamed_any d hd ma n c m s hs W hO)
  unfold namedF
  clear hB hO he
  go_enter Tryd.func112, Tryd.ntmps112
  go_wp2
  go_loopw [8] (fun i wr => ∃ q : Nat, q ≤ k ∧ i = .int .i64 q ∧ Hid (∀ j, j < q → nmdB d (e.ss j) = false) ∧ Mem ((Base.of w).with m (mapO kvS (keysU d d.n1) (putsU d d.n1)) rfl) [] wr) (fun i _ => k - (intOf i).toNat)
  case atStart => exact ⟨0, by omega, rfl, Lib.hid (fun j hj => absurd hj (by omega)), hM⟩
  case round =>
    clear hM
    obtain ⟨q, hq, rfl, hfr, hM⟩ := hrel
    by_cases hlt : q < k
    · have l2 : (q : Int) < k := by omega
      have s1 : vStringS e.ss q = .string (e.ss q) := rfl
      have hsz := HE.out q hlt
      have HY := Lib.hid (fun (h : nmdB d (e.ss q) = true) => anyU_yes h hlt)
      have HS := Lib.hid (fun (h : nmdB d (e.ss q) = false) (j : Nat) (hj : j < q + 1) => show nmdB d (e.ss j) = false from by
        rcases Nat.lt_succ_iff_lt_or_eq.1 hj with h' | rfl
        · exact hfr.out j h'
        · exact h)
      generalize e.ss q = sq at s1 HY HS hsz
      cases ha : nmdB d sq
      · have Ha := Lib.hid ha
        have HZ := Lib.hid (HS.out ha)
        clear ha HY HS
        go_wp2_with (first | (refine wpList_getAt1 rfl _ _ rfl _ _ rfl (HB.out.below hM.good.1 HB.out.lt) (cellTab _ rfl) (by omega) _ s1 ?_) | (go_at_call 83; refine (HND.out sq hsz _ hM.good.2).mono ?_; rintro e W' ⟨rfl, hb'⟩; rw [Ha.out]; have hM' := hM.call hb'; clear hM hb'; have hM := hM'; clear hM'))
        go_roundw
        case rel => exact ⟨q + 1, by omega, by go_num, HZ, hM⟩
        case measure => simp [intOf]; omega
      · have Ha := Lib.hid ha
        have HZ := Lib.hid (HY.out ha)
        clear ha HY HS
        go_wp2_with (first | (refine wpList_getAt1 rfl _ _ rfl _ _ rfl (HB.out.below hM.good.1 HB.out.lt) (cellTab _ rfl) (by omega) _ s1 ?_) | (go_at_call 83; refine (HND.out sq hsz _ hM.good.2).mono ?_; rintro e W' ⟨rfl, hb'⟩; rw [Ha.out]; have hM' := hM.call hb'; clear hM hb'; have hM := hM'; clear hM'))
        go_ret
        exact .inl ⟨q, rfl, HZ.out, hM.good.1⟩
    · obtain rfl : q = k := by omega
      go_wp2
      go_ret
      exact .inr ⟨rfl, anyU_no hfr.out, hM.good.1⟩
set_option maxHeartbeats 1000000 in
theorem containsNamed (d : Hd) (hd : FitsH d) (ma : Option Addr) (n c m : Nat) (e : Hd) (k : Nat) (he : ∀ j, j < k → (e.ss j).size ≤ maxLen) (b cb N : Nat) (hk : k ≤ N) (hkb : k ≤ 1048576) (w : World) (hB : At w b N (vStringS e.ss)) (hO : w.heap[m]? = some (mapO kvS (keysU d d.n1) (putsU d d.n1))) :
    Calls Tryd.prog 88 #[.slice (some ⟨b, 0, none⟩) k cb, namedF ma n c m] w fun r w' => r = .returned (.bool (anyU d e k)) ∧ Below w.heap.size w w' := by
  have HI := Lib.hid (indexNamed (k := k) d hd ma n c m e he b cb N hk hkb w hB hO)
  clear hB hO
  unfold namedF at HI ⊢
  go_enter Tryd.func88, Tryd.ntmps88
  go_wp2_with fail
  go_at_call 112
  refine HI.out.mono ?_
  rintro r w1 (⟨j, rfl, hf, hb⟩ | ⟨rfl, hf, hb⟩)
  · have Hf := Lib.hid hf
    clear hf
    have hj : 0 ≤ (j : Int) := by omega
    go_wp2
    go_ret
    exact ⟨ret_bool (by rw [Hf.out]), hb⟩
  · have Hf := Lib.hid hf
    clear hf
    go_wp2
    go_ret
    exact ⟨ret_bool (by rw [Hf.out]), hb⟩

@[go_sem] theorem membs_not_nil (p : Addr) (n c : Nat) (w : World) : (binOp BinOp.eql 67 (.slice (some p) n c) (.slice none 0 0)).run Tryd.prog w = .ok (.bool false) w := by kernel_rfl
@[go_sem] theorem membs_nil (w : World) : (binOp BinOp.eql 67 (.slice none 0 0) (.slice none 0 0)).run Tryd.prog w = .ok (.bool true) w := by kernel_rfl
theorem member_info0 : (Tryd.prog.info? 77).map (fun i => i.size) = some 3 := by kernel_rfl
set_option maxHeartbeats 1000000 in
theorem cloneM_any (d : Hd) (B : Nat) (a : Option Addr) (n c : Nat) (hn : n ≤ 1048576) (w : World) (hA : MemsOwn B w a n c d) :
    Calls Tryd.prog 113 #[.slice a n c] w fun e w' => ∃ v, e = .returned v ∧ Lst w [] 3 v n (sMem d) w' := by
  rcases hA with ⟨rfl, rfl, rfl⟩ | ⟨hn1, b, F, rfl, -, hnc, hF, hAt⟩
  · have hM := Mem.nil w
    go_enter Tryd.func113, Tryd.ntmps113
    go_wp2
    go_ret
    exact ⟨_, rfl, .inl ⟨rfl, rfl, hM⟩⟩
  · have hM := (Mem.nil w).old hAt (fun i p h => by simp at h)
    simp only [List.nil_append] at hM
    have Hf := Lib.hid hF
    clear hAt hF
    have tk_b1 : True := trivial
    go_enter Tryd.func113, Tryd.ntmps113
    go_wp2_with (first | (have _t := tk_b1; refine wpList_slice0 rfl _ _ rfl _ member_under member_info0 hM ?_; intro b1 W' hb1 hM'; clear hM tk_b1; have hM := hM'; clear hM') | (refine wpList_cat0 rfl _ _ _ rfl _ 3 _ _ member_under member_infoB rfl (by omega) b1 rfl b n c rfl hn1 hn hM 1 rfl (Nat.mul_le_mul_right _ hnc) ?_; intro bL cL FL W' hbL hcL hFL hM'; clear hM; have hM := hM'; clear hM'))
    go_ret
    exact ⟨_, rfl, (show Lst w _ 3 _ n (sMem d) _ from .inr ⟨bL, cL, FL, rfl, hbL, hcL, fun j hj => by rw [hFL j hj, Hf.out j hj], hM⟩).only⟩
theorem mem3_upd {s : ByteArray} {e f g : Int} : ∀ k, k < 3 → upd (mem3 s e f) 2 (.int .u16 g) k = mem3 s e g k := fun k hk => by
  rcases (show k = 0 ∨ k = 1 ∨ k = 2 by omega) with rfl | rfl | rfl <;> rfl
theorem sMem_jn1 {d e : Hd} {j : Nat} (hj : j < d.n1 * 3) : sMem d j = sMem (jnD d e) j := by
  have h : j / 3 < d.n1 := by omega
  unfold sMem gMem jnD
  simp only [h, if_true]
theorem sMem_jn2 (d e : Hd) (k : Nat) : ∀ j, j < 3 → mem3 (e.ss k) (e.es k) (e.fs k * 2 ^ d.n1) j = sMem (jnD d e) ((d.n1 + k) * 3 + j) := fun j hj => by
  rw [sMem_row (jnD d e) (d.n1 + k) j hj]
  have h : ¬ d.n1 + k < d.n1 := by omega
  unfold gMem jnD
  simp only [h, if_false, Nat.add_sub_cancel_left]
set_option maxRecDepth 100000 in
set_option maxHeartbeats 4000000 in
theorem joinedBy_any (d e : Hd) (B : Nat) (a a2 : Option Addr) (c c2 n2 : Nat) (h14 : d.n1 + n2 ≤ 14) (hfo : ∀ j, j < n2 → 0 ≤ e.fs j ∧ e.fs j < 2 ^ n2) (w : World) (hA : MemsOwn B w a d.n1 c d) (hE : MemsAt w a2 n2 e) :
    Calls Tryd.prog 89 #[.slice a d.n1 c, .slice a2 n2 c2] w fun r w' => ∃ v, r = .returned v ∧ Lst w [] 3 v (d.n1 + n2) (sMem (jnD d e)) w' := by
  have hM := Mem.nil w
  have HCL := Lib.hid (cloneM_any d B a d.n1 c (by omega) w hA)
  have HE := Lib.hid hE
  have HFO := Lib.hid hfo
  have HJ1 := Lib.hid (fun j (hj : j < d.n1 * 3) => sMem_jn1 (d := d) (e := e) hj)
  have HJ2 := Lib.hid (sMem_jn2 d e)
  clear hA hE hfo
  obtain ⟨n1, hn1⟩ : ∃ n, d.n1 = n := ⟨_, rfl⟩
  rw [hn1] at HCL HJ1 HJ2 h14 ⊢
  have h0 : (0 : Int) ≤ n1 := by omega
  have h16 : (n1 : Int) ≤ 16 := by omega
  obtain ⟨R, hR⟩ : ∃ R, sMem (jnD d e) = R := ⟨_, rfl⟩
  rw [hR] at HJ1 HJ2 ⊢
  clear hn1 hR
  go_enter Tryd.func89, Tryd.ntmps89
  go_wp2_with (first | (go_at_call 113; refine HCL.out.mono ?_; rintro r W' ⟨v, rfl, hL⟩; have HL := Lib.hid hL; clear hL hM))
  go_loopw [5, 12] (fun v i wr => ∃ k : Nat, k ≤ n2 ∧ i = .int .i64 k ∧ Lst w [] 3 v (n1 + k) R wr) (fun _ i _ => n2 - (intOf i).toNat)
  case atStart =>
    refine ⟨0, by omega, rfl, ?_⟩
    rcases HL.out with ⟨h1, h2, h3⟩ | ⟨b, cc, F, h1, h2, h3, h4, h5⟩
    · exact .inl ⟨h1, by omega, h3⟩
    · exact .inr ⟨b, cc, F, h1, h2, h3, fun j hj => (h4 j hj).trans (HJ1.out j hj), h5⟩
  case round =>
    obtain ⟨k, hk, rfl, hL⟩ := hrel
    by_cases hlt : k < n2
    · have l2 : (k : Int) < n2 := by omega
      obtain ⟨bm, N, F0, rfl, hN, -, hF0, hAt⟩ := (HE.out.below hL.mem.below).row hlt
      have HFr := Lib.hid hF0
      have HT := Lib.hid hAt
      obtain ⟨hfa, hfb⟩ := HFO.out k hlt
      obtain ⟨fk2, hfk2⟩ : ∃ y, e.fs k * 2 ^ n1 = y := ⟨_, rfl⟩
      have cw : IntKind.u16.wrap (e.fs k * 2 ^ n1) = fk2 := by rw [shl_in hfa hfb h14, hfk2]
      have hV := HJ2.out k
      rw [hfk2] at hV
      have HR : Hid (∀ j, j < 3 → lay zMem 0 3 (gMem e k) j = mem3 (e.ss k) (e.es k) (e.fs k) j) := Lib.hid (fun j hj => by simp [lay, hj, gMem])
      have HV := Lib.hid hV
      clear hF0 hAt hfa hfb hfk2 hV
      generalize e.ss k = sk at HV HR
      generalize e.es k = ek at HV HR
      generalize e.fs k = fk at cw HR
      rcases hL with ⟨rfl, h00, hM⟩ | ⟨b, cc, F, rfl, hbb, hnc, hF, hM⟩
      · obtain rfl : k = 0 := by omega
        obtain rfl : n1 = 0 := by omega
        have hV0 : ∀ j, j < 3 → mem3 sk ek fk2 j = R j := fun j hj => by have := HV.out j hj; rwa [show (0 + 0) * 3 + j = j by omega] at this
        have hF1 : ∀ j, j < 3 → F0 (0 + j) = gMem e 0 j := fun j hj => by have := HFr.out j hj; rwa [Nat.zero_mul] at this
        have cw0 : IntKind.u16.wrap fk = fk2 := by rw [← cw, Int.pow_zero, Int.mul_one]
        clear HV HFr cw
        have HV := Lib.hid hV0
        have HFr := Lib.hid hF1
        clear hV0 hF1
        have tk_b3 : True := trivial; have tk_s1 : True := trivial; have tk_g1 : True := trivial; have tk_s2 : True := trivial; have tk_g2 : True := trivial; have tk_sl : True := trivial; have tk_ps : True := trivial
        go_wp2_with (first | (refine wpList_getAt rfl _ _ rfl _ _ rfl HT.out (rowTab _ _ rfl) (by omega) (gMem e 0) HFr.out ?_) | (have _t := tk_b3; refine wpList_zero rfl _ rfl (zeroTab _ _ _ rfl) hM ?_; intro b3 W' hb3 hM'; clear hM tk_b3; have hM := hM'; clear hM') | (have _t := tk_s1; refine wpList_lay rfl _ _ _ rfl _ _ rfl _ _ rfl hM 0 rfl (by assumption) (rowTab _ _ rfl) (by omega) (fun j _ => gMem_one e 0 j) ?_; intro W' hM'; have hM2 := hM'.re 0 rfl (mem3 sk ek fk) HR.out; simp only [List.set_cons_zero] at hM2; clear hM hM' tk_s1; have hM := hM2; clear hM2) | (have _t := tk_g1; refine wpList_get1 rfl _ _ rfl _ _ rfl hM 0 rfl (cellTab _ rfl) (by omega) (.int .u16 fk) rfl ?_; clear tk_g1) | (have _t := tk_s2; refine wpList_set1 rfl _ _ _ rfl _ _ rfl (.int .u16 fk2) rfl rfl hM 0 rfl hb3 (cellTab _ rfl) (by omega) ?_; intro W' hM'; have hM2 := hM'.re 0 rfl (mem3 sk ek fk2) mem3_upd; simp only [List.set_cons_zero] at hM2; clear hM hM' tk_s2; have hM := hM2; clear hM2) | (have _t := tk_g2; refine wpList_get rfl _ _ rfl _ _ rfl hM 0 rfl (rowTab _ _ rfl) (by omega) ?_; simp only [Nat.zero_add]; clear tk_g2) | (have _t := tk_sl; refine wpList_slice1 rfl _ _ _ rfl 3 (mem3 sk ek fk2) rfl _ member_under member_info (by omega) (by omega) hM ?_; intro sl W' hsl hM'; clear hM tk_sl; have hM := hM'; clear hM') | (have _t := tk_ps; refine wpList_push0 rfl _ _ _ rfl _ 3 _ _ member_under member_infoB rfl (by omega) rfl _ _ rfl hM R HV.out ?_; intro g i G W' hg hi hG hM'; have HG := Lib.hid hG; clear hM tk_ps hG; have hM := hM'; clear hM'))
        exact ⟨⟨1, by omega, by go_num, (show Lst w _ 3 _ (0 + 1) R _ from .inr ⟨g, i, G, rfl, hg, hi, HG.out, hM⟩).only⟩, by simp [intOf]; omega⟩
      · have hk1 : n1 + k ≤ 1048576 := by omega
        have HF := Lib.hid hF
        clear hF
        have tk_b3 : True := trivial; have tk_s1 : True := trivial; have tk_g1 : True := trivial; have tk_s2 : True := trivial; have tk_g2 : True := trivial; have tk_sl : True := trivial; have tk_ps : True := trivial
        go_wp2_with (first | (refine wpList_getAt rfl _ _ rfl _ _ rfl HT.out (rowTab _ _ rfl) (by omega) (gMem e k) HFr.out ?_) | (have _t := tk_b3; refine wpList_zero rfl _ rfl (zeroTab _ _ _ rfl) hM ?_; intro b3 W' hb3 hM'; clear hM tk_b3; have hM := hM'; clear hM') | (have _t := tk_s1; refine wpList_lay rfl _ _ _ rfl _ _ rfl _ _ rfl hM 0 rfl (by assumption) (rowTab _ _ rfl) (by omega) (fun j _ => gMem_one e k j) ?_; intro W' hM'; have hM2 := hM'.re 0 rfl (mem3 sk ek fk) HR.out; simp only [List.set_cons_zero] at hM2; clear hM hM' tk_s1; have hM := hM2; clear hM2) | (have _t := tk_g1; refine wpList_get1 rfl _ _ rfl _ _ rfl hM 0 rfl (cellTab _ rfl) (by omega) (.int .u16 fk) rfl ?_; clear tk_g1) | (have _t := tk_s2; refine wpList_set1 rfl _ _ _ rfl _ _ rfl (.int .u16 fk2) rfl rfl hM 0 rfl hb3 (cellTab _ rfl) (by omega) ?_; intro W' hM'; have hM2 := hM'.re 0 rfl (mem3 sk ek fk2) mem3_upd; simp only [List.set_cons_zero] at hM2; clear hM hM' tk_s2; have hM := hM2; clear hM2) | (have _t := tk_g2; refine wpList_get rfl _ _ rfl _ _ rfl hM 0 rfl (rowTab _ _ rfl) (by omega) ?_; simp only [Nat.zero_add]; clear tk_g2) | (have _t := tk_sl; have hM2 := hM.swap; clear hM; have hM := hM2; clear hM2; refine wpList_slice1 rfl _ _ _ rfl 3 (mem3 sk ek fk2) rfl _ member_under member_info (by omega) (by omega) hM ?_; intro sl W' hsl hM'; clear hM tk_sl; have hM := hM'; clear hM') | (have _t := tk_ps; refine wpList_push1 rfl _ _ _ rfl _ 3 _ _ member_under member_infoB rfl (by omega) _ _ _ _ rfl hbb hnc hk1 _ _ rfl mem3_ones hM R HF.out HV.out ?_; intro g i G W' hg hi hG hM'; have HG := Lib.hid hG; clear hM tk_ps hG; have hM := hM'; clear hM'))
        exact ⟨⟨k + 1, by omega, by go_num, (show Lst w _ 3 _ (n1 + (k + 1)) R _ from .inr ⟨g, i, G, rfl, hg, hi, HG.out, hM⟩).only⟩, by simp [intOf]; omega⟩
    · obtain rfl : k = n2 := by omega
      go_wp2
      go_ret
      exact ⟨_, rfl, hL⟩
end Go.Proofs.YthodkbmenndnoaaDoor

/-
  impl.AddToHerd by contract.
-/
namespace Go.Proofs.YthodkbmenndnoaaDoor
open Go Go.RowKit Go.BigFrame

theorem run_memb2 (s : ByteArray) (e : Int) (W : World) : (Instr.build 77 #[(0, .string s), (1, .int .i16 e)]).run Tryd.prog W = .ok (.agg (arr 3 (mem3 s e 0))) W := by kernel_rfl
theorem wpList_memb2 {ops : Array Oper} {rest : List Oper} {o : Oper} {a : Act} {W : World} {Q : Exit → Act → World → Prop} (hgd : o.guard = none) (x y : Operand) (ho : o.op = .build 77 #[(0, x), (1, y)]) (s : ByteArray) (e : Int)
    (hx : a.eval x = .string s) (hy : a.eval y = .int .i16 e)
    (h : wpList Tryd.prog ops Q rest (a.put o.dst (.agg (arr 3 (mem3 s e 0)))) W) : wpList Tryd.prog ops Q (o :: rest) a W := by
  refine wpList_plain hgd fun K hK => ?_
  have hr := run_memb2 s e W
  rw [← hx, ← hy] at hr
  unfold Oper.wp execOp
  simp only [ho, List.map_toArray, List.map_cons, List.map_nil, Sem.run_bind, Sem.run_pure, hr, Result.andThen_ok]
  exact hK _ _ h
theorem sMem_add {d : Hd} {s : ByteArray} {e : Int} {F : Nat → Value} (hF : ∀ j, j < d.n1 * 3 → F j = sMem d j) : ∀ j, j < d.n1 * 3 → F j = sMem (adD d s e) j := fun j hj => by
  rw [hF j hj]
  have h : ¬ j / 3 = d.n1 := by omega
  unfold sMem gMem adD
  simp only [h, if_false]
theorem sMem_new (d : Hd) (s : ByteArray) (e : Int) : ∀ j, j < 3 → mem3 s e 0 j = sMem (adD d s e) (d.n1 * 3 + j) := fun j hj => by
  rw [sMem_row (adD d s e) d.n1 j hj]
  unfold gMem adD
  simp

set_option maxRecDepth 100000 in
set_option maxHeartbeats 4000000 in
theorem implAddToHerd_any {a : Nat → Addr} (d : Hd) (b1 b2 b3 : Nat) (hd : FitsH d) (s : ByteArray) (hs : s.size ≤ maxLen) (e : Int) (w : World) (hM0 : Mem w (hdB d b1 b2 b3) w) (hE : Errs a w) (hT : Tab w) :
    Calls Tryd.prog 32 #[.agg (arr 3 (hdV d b1 b2 b3)), .string s, .int .i64 e] w (GivesH (adN d s e) (vStringS (adD d s e).ss) (vInt16S (adD d s e).es) (vUint16S (adD d s e).fs) (adC d s e) w) := by
  have hM := Mem.nil w
  have H0 := Lib.hid hM0
  have HE := Lib.hid hE
  have HT := Lib.hid hT
  clear hM0 hE hT
  by_cases hc : adC d s e = 0
  · obtain ⟨hOk, hin, hnm, hnd, h14⟩ := ad_0 hc
    have h14' := hOk.n
    have HR := Lib.hid (show adN d s e = d.n1 + 1 ∧ adC d s e = 0 from ⟨by unfold adN; rw [if_pos hc], hc⟩)
    have HI := Lib.hid hin
    have HNm := Lib.hid hnm
    have HNd := Lib.hid hnd
    have HND := Lib.hid (fun (ma : Option Addr) (n c m : Nat) (W : World) hO => isNamed_any d hd ma n c m s hs W hO)
    have hFW := fun (W : World) hB hE hG => flockWith_own (r := a 1) d b1 b2 b3 hd none 0 0 (fun _ => 0) (by omega) W hB hE hG hOk (fun j h => absurd h (by omega))
    have HA := Lib.hid (fun (F : Nat → Value) hF => sMem_add (d := d) (s := s) (e := e) (F := F) hF)
    have hV := sMem_new d s e
    have ew := in_i16 hin
    obtain ⟨hv, hhv⟩ : ∃ f, hdV d b1 b2 b3 = f := ⟨_, rfl⟩
    rw [hhv] at hFW ⊢
    have HFW := Lib.hid hFW
    clear hc hOk hin hnm hnd hhv hFW
    by_cases hpos : d.n1 = 0
    · have hV0 : ∀ j, j < 3 → mem3 s e 0 j = sMem (adD d s e) j := fun j hj => by have := hV j hj; rwa [hpos, Nat.zero_mul, Nat.zero_add] at this
      have HV := Lib.hid hV0
      have HR2 := Lib.hid (show d.n1 + 1 = 1 from by omega)
      rw [HR2.out] at HR
      have HP0 := Lib.hid hpos
      clear hV hV0 h14 h14' hpos
      have tk_x1 : True := trivial; have tk_r : True := trivial; have tk_r1 : True := trivial; have tk_f8 : True := trivial; have tk_s1 : True := trivial; have tk_gl : True := trivial; have tk_m1 : True := trivial; have tk_m2 : True := trivial; have tk_sl : True := trivial; have tk_ps : True := trivial; have tk_h1 : True := trivial; have tk_s2 : True := trivial
      go_enter Tryd.func32, Tryd.ntmps32
      go_wp2_with (first | (have _t := tk_x1; refine wpList_box rfl _ _ rfl _ _ rfl hM ?_; intro x1 W' hx1 hM'; clear hM tk_x1; have hM := hM'; clear hM') | (have _t := tk_r; refine wpList_zero rfl _ rfl zeroHerd hM ?_; intro r W' hr hM'; clear hM tk_r; have hM := hM'; clear hM') | (have _t := tk_r1; refine wpList_get rfl _ _ rfl _ _ rfl hM 1 rfl (rowTab _ _ rfl) (by omega) ?_; simp only [Nat.zero_add]; clear tk_r1) | (go_at_call 64; refine (HFW.out _ ((H0.out.call hM.below).base (Below.refl _ _)) ⟨(HE.out.below hM.below).vars 1 (by omega), HT.out.below hM.below⟩ (.inl rfl)).mono ?_; rintro e' Wf ⟨ma, mc, m, he, hmc0, hMA, hO, hb'⟩; obtain ⟨rfl, rfl⟩ := hMA.no HP0.out; rw [HP0.out] at he; subst he; have hM' := (hM.call hb').withO (o := mapO kvS (keysU d d.n1) (putsU d d.n1)) rfl hO; clear hM hb' hO hMA hmc0; have hM := hM'; clear hM') | (have _t := tk_f8; refine wpList_zero rfl _ rfl (zeroTab _ _ _ rfl) hM ?_; intro f8 W' hf8 hM'; clear hM tk_f8; have hM := hM'; clear hM') | (have _t := tk_s1; refine wpList_lay rfl _ _ _ rfl _ _ rfl _ _ rfl hM 0 rfl (by assumption) (rowTab _ _ rfl) (by omega) (fun k _ => flkV_one _ _ _ _ k) ?_; intro W' hM'; have hM2 := hM'.re 0 rfl (flkV none 0 0 m) (fun k hk => by simp [lay, hk]); simp only [List.set_cons_zero] at hM2; clear hM hM' tk_s1; have hM := hM2; clear hM2) | (go_at_call 81; (with_reducible refine (checkUpTo_yes e 100 _ HI.out).mono ?_); rintro e W' ⟨rfl, hb'⟩; have hM' := hM.call hb'; clear hM hb'; have hM := hM'; clear hM') | (go_at_call 82; refine (isName_any s _).mono ?_; rintro e W' ⟨rfl, hb'⟩; rw [HNm.out]; have hM' := hM.call hb'; clear hM hb'; have hM := hM'; clear hM') | (have _t := tk_gl; refine wpList_gget ?_ _ _ rfl _ _ rfl hM 0 rfl (rowTab _ _ rfl) (by omega) ?_; kernel_rfl; simp only [Nat.zero_add]; clear tk_gl) | (go_at_call 83; refine (HND.out _ 0 0 m _ hM.good.2).mono ?_; rintro e W' ⟨rfl, hb'⟩; rw [HNd.out]; have hM' := hM.call hb'; clear hM hb'; have hM := hM'; clear hM') | (have _t := tk_m1; refine wpList_get1 rfl _ _ rfl _ _ rfl hM 0 rfl (cellTab _ rfl) (by omega) (.slice none 0 0) rfl ?_; clear tk_m1) | (have _t := tk_m2; refine wpList_get1 rfl _ _ rfl _ _ rfl hM 0 rfl (cellTab _ rfl) (by omega) (.slice none 0 0) rfl ?_; clear tk_m2) | (refine wpList_memb2 rfl _ _ rfl s e rfl rfl ?_) | (have _t := tk_sl; refine wpList_slice1 rfl _ _ _ rfl 3 (mem3 s e 0) rfl _ member_under member_info (by omega) (by omega) hM ?_; intro sl W' hsl hM'; clear hM tk_sl; have hM := hM'; clear hM') | (have _t := tk_ps; refine wpList_push0 rfl _ _ _ rfl _ 3 _ _ member_under member_infoB rfl (by omega) rfl _ _ rfl hM (sMem (adD d s e)) HV.out ?_; intro g i G W' hg hi hG hM'; have HG := Lib.hid hG; clear hM tk_ps hG; have hM := hM'; clear hM') | (have _t := tk_h1; go_at_call 74; refine (herd_any (adD d s e) (some ⟨g, 0, none⟩) 1 i (by omega) _ (.inr ⟨g, i * 3, G, rfl, by omega, HG.out, hM.ats 0 _ _ _ rfl⟩)).mono ?_; rintro e' W2 ⟨f, rfl, hN⟩; have HO := Lib.hid hN.one; obtain ⟨K, hM', hK⟩ := hN.keep hM; have HK := Lib.hid (And.intro hM.size hK); clear hK hM hN tk_h1; have hM := hM'; clear hM'; simp only [List.cons_append, List.nil_append] at hM) | (have _t := tk_s2; refine wpList_lay rfl _ _ _ rfl _ _ rfl _ _ rfl hM 2 rfl (by assumption) (rowTab _ _ rfl) (by omega) (fun k _ => HO.out k) ?_; intro W' hM'; clear hM tk_s2; have hM := hM'; clear hM'; simp only [List.set, List.cons_append, List.nil_append] at hM))
      have hA1 := (hM.ats 2 _ _ _ rfl).congr (g := f) (fun j hj => by simp [lay, hj])
      refine bodyPost_ret (results_at2 rfl _ rfl hA1 rowHerd _ rfl) rfl ?_
      rw [HR.out.1, HR.out.2]
      exact ⟨_, rfl, HK.out.2 w [_, _, _, _] _ HK.out.1 (hM.base hM.good.1)⟩
    · have HV := Lib.hid hV
      have hpos : 0 < d.n1 := by omega
      have hn1 : d.n1 ≤ 1048576 := by omega
      have z14 : ((d.n1 : Int) == 14) = false := beq_eq_false_iff_ne.2 (by omega)
      have y14 : ¬ (d.n1 : Int) = 14 := by omega
      clear hV h14
      have tk_x1 : True := trivial; have tk_r : True := trivial; have tk_r1 : True := trivial; have tk_f8 : True := trivial; have tk_s1 : True := trivial; have tk_gl : True := trivial; have tk_m1 : True := trivial; have tk_m2 : True := trivial; have tk_sl : True := trivial; have tk_ps : True := trivial; have tk_h1 : True := trivial; have tk_s2 : True := trivial
      go_enter Tryd.func32, Tryd.ntmps32
      go_wp2_with (first | (have _t := tk_x1; refine wpList_box rfl _ _ rfl _ _ rfl hM ?_; intro x1 W' hx1 hM'; clear hM tk_x1; have hM := hM'; clear hM') | (have _t := tk_r; refine wpList_zero rfl _ rfl zeroHerd hM ?_; intro r W' hr hM'; clear hM tk_r; have hM := hM'; clear hM') | (have _t := tk_r1; refine wpList_get rfl _ _ rfl _ _ rfl hM 1 rfl (rowTab _ _ rfl) (by omega) ?_; simp only [Nat.zero_add]; clear tk_r1) | (go_at_call 64; refine (HFW.out _ ((H0.out.call hM.below).base (Below.refl _ _)) ⟨(HE.out.below hM.below).vars 1 (by omega), HT.out.below hM.below⟩ (.inl rfl)).mono ?_; rintro e' Wf ⟨ma, mc, m, he, hmc0, hMA, hO, hb'⟩; subst he; obtain ⟨bm, F, rfl, hbm, hmc, hF, hAm⟩ := hMA.some hpos; have HBM := Lib.hid (Nat.le_trans hM.size hbm); have HF := Lib.hid (HA.out F hF); have hM2 := hM.freshQ hb' hAm hbm; have hM' := hM2.withO (o := mapO kvS (keysU d d.n1) (putsU d d.n1)) rfl hO; clear hM hM2 hb' hO hMA hmc0 hF hAm hbm; have hM := hM'; clear hM') | (have _t := tk_f8; refine wpList_zero rfl _ rfl (zeroTab _ _ _ rfl) hM ?_; intro f8 W' hf8 hM'; clear hM tk_f8; have hM := hM'; clear hM') | (have _t := tk_s1; refine wpList_lay rfl _ _ _ rfl _ _ rfl _ _ rfl hM 0 rfl (by assumption) (rowTab _ _ rfl) (by omega) (fun k _ => flkV_one _ _ _ _ k) ?_; intro W' hM'; have hM2 := hM'.re 0 rfl (flkV (some ⟨bm, 0, none⟩) d.n1 mc m) (fun k hk => by simp [lay, hk]); simp only [List.set_cons_zero] at hM2; clear hM hM' tk_s1; have hM := hM2; clear hM2) | (go_at_call 81; (with_reducible refine (checkUpTo_yes e 100 _ HI.out).mono ?_); rintro e W' ⟨rfl, hb'⟩; have hM' := hM.call hb'; clear hM hb'; have hM := hM'; clear hM') | (go_at_call 82; refine (isName_any s _).mono ?_; rintro e W' ⟨rfl, hb'⟩; rw [HNm.out]; have hM' := hM.call hb'; clear hM hb'; have hM := hM'; clear hM') | (have _t := tk_gl; refine wpList_gget ?_ _ _ rfl _ _ rfl hM 0 rfl (rowTab _ _ rfl) (by omega) ?_; kernel_rfl; simp only [Nat.zero_add]; clear tk_gl) | (go_at_call 83; refine (HND.out _ d.n1 mc m _ hM.good.2).mono ?_; rintro e W' ⟨rfl, hb'⟩; rw [HNd.out]; have hM' := hM.call hb'; clear hM hb'; have hM := hM'; clear hM') | (have _t := tk_m1; refine wpList_get1 rfl _ _ rfl _ _ rfl hM 0 rfl (cellTab _ rfl) (by omega) (.slice (some ⟨bm, 0, none⟩) d.n1 mc) rfl ?_; clear tk_m1) | (have _t := tk_m2; refine wpList_get1 rfl _ _ rfl _ _ rfl hM 0 rfl (cellTab _ rfl) (by omega) (.slice (some ⟨bm, 0, none⟩) d.n1 mc) rfl ?_; clear tk_m2) | (refine wpList_memb2 rfl _ _ rfl s e rfl rfl ?_) | (have _t := tk_sl; have hM2 := hM.swap; clear hM; have hM := hM2; clear hM2; refine wpList_slice1 rfl _ _ _ rfl 3 (mem3 s e 0) rfl _ member_under member_info (by omega) (by omega) hM ?_; intro sl W' hsl hM'; clear hM tk_sl; have hM := hM'; clear hM') | (have _t := tk_ps; refine wpList_push1 rfl _ _ _ rfl _ 3 _ _ member_under member_infoB rfl (by omega) _ _ _ _ rfl (by exact HBM.out) hmc hn1 _ _ rfl mem3_ones hM (sMem (adD d s e)) HF.out HV.out ?_; intro g i G W' hg hi hG hM'; have HG := Lib.hid hG; clear hM tk_ps hG; have hM := hM'; clear hM') | (have _t := tk_h1; go_at_call 74; refine (herd_any (adD d s e) (some ⟨g, 0, none⟩) (d.n1 + 1) i (by omega) _ (.inr ⟨g, i * 3, G, rfl, by omega, HG.out, hM.ats 0 _ _ _ rfl⟩)).mono ?_; rintro e' W2 ⟨f, rfl, hN⟩; have HO := Lib.hid hN.one; obtain ⟨K, hM', hK⟩ := hN.keep hM; have HK := Lib.hid (And.intro hM.size hK); clear hK hM hN tk_h1; have hM := hM'; clear hM'; simp only [List.cons_append, List.nil_append] at hM) | (have _t := tk_s2; refine wpList_lay rfl _ _ _ rfl _ _ rfl _ _ rfl hM 2 rfl (by assumption) (rowTab _ _ rfl) (by omega) (fun k _ => HO.out k) ?_; intro W' hM'; clear hM tk_s2; have hM := hM'; clear hM'; simp only [List.set, List.cons_append, List.nil_append] at hM))
      have hA1 := (hM.ats 2 _ _ _ rfl).congr (g := f) (fun j hj => by simp [lay, hj])
      refine bodyPost_ret (results_at2 rfl _ rfl hA1 rowHerd _ rfl) rfl ?_
      rw [HR.out.1, HR.out.2]
      exact ⟨_, rfl, HK.out.2 w [_, _, _, _] _ HK.out.1 (hM.base hM.good.1)⟩
  · have HR := Lib.hid (show adN d s e = 0 from by unfold adN; rw [if_neg hc])
    rw [HR.out]
    unfold adC at hc ⊢
    cases hB : herdB d
    · have hC : askC d 0 (fun _ => 0) = 1 := chk_1 hB
      have hz : askC d 0 (fun _ => 0) ≠ 0 := by rw [hC]; decide
      have hFW := fun (W : World) hB hE hT => flockWith_bad (a := a) d b1 b2 b3 hd none 0 0 (fun _ => 0) (by omega) W hB hE hT (.inl rfl) hz
      obtain ⟨hv, hhv⟩ : ∃ f, hdV d b1 b2 b3 = f := ⟨_, rfl⟩
      rw [hhv] at hFW ⊢
      generalize askC d 0 (fun _ => 0) = C at *
      have HFW := Lib.hid hFW
      have HC := Lib.hid hC
      clear hc hB hC hz hhv hFW
      rw [if_neg (by decide)]
      have tk_x1 : True := trivial; have tk_r : True := trivial; have tk_r1 : True := trivial; have tk_s2 : True := trivial; have tk_f8 : True := trivial; have tk_s1 : True := trivial
      go_enter Tryd.func32, Tryd.ntmps32
      go_wp2_with (first | (have _t := tk_x1; refine wpList_box rfl _ _ rfl _ _ rfl hM ?_; intro x1 W' hx1 hM'; clear hM tk_x1; have hM := hM'; clear hM') | (have _t := tk_r; refine wpList_zero rfl _ rfl zeroHerd hM ?_; intro r W' hr hM'; clear hM tk_r; have hM := hM'; clear hM') | (have _t := tk_r1; refine wpList_get rfl _ _ rfl _ _ rfl hM 1 rfl (rowTab _ _ rfl) (by omega) ?_; simp only [Nat.zero_add]; clear tk_r1) | (go_at_call 64; refine (HFW.out _ ((H0.out.call hM.below).base (Below.refl _ _)) (HE.out.below hM.below) (HT.out.below hM.below)).mono ?_; rintro e' Wf ⟨ff, ev, rfl, hone, hEv, hb'⟩; have hM' := hM.call hb'; have hN := hEv.neq; have hGd := hEv.guard; have HEv := Lib.hid hEv; have HOne := Lib.hid hone; clear hM hb' hEv hone; have hM := hM'; clear hM') | (have _t := tk_f8; refine wpList_zero rfl _ rfl (zeroTab _ _ _ rfl) hM ?_; intro f8 W' hf8 hM'; clear hM tk_f8; have hM := hM'; clear hM') | (have _t := tk_s1; refine wpList_lay rfl _ _ _ rfl _ _ rfl _ _ rfl hM 0 rfl (by assumption) (rowTab _ _ rfl) (by omega) HOne.out ?_; intro W' hM'; clear hM tk_s1; have hM := hM'; clear hM'; simp only [List.set_cons_zero] at hM) | (go_at_call 65; refine (HEv.out.code (HE.out.below hM.below)).mono ?_; rintro e' W' ⟨rfl, rfl⟩) | (refine wpList_herd0 rfl rfl ?_) | (have _t := tk_s2; refine wpList_lay rfl _ _ _ rfl _ _ rfl _ _ rfl hM 1 rfl (by assumption) (rowTab _ _ rfl) (by omega) (fun k _ => nil3_one k) ?_; intro W' hM'; clear hM tk_s2; have hM := hM'; clear hM'; simp only [List.set] at hM))
      have hA1 := (hM.ats 1 _ _ _ rfl).congr (g := nil3) (fun j hj => by simp [lay, hj, nil3])
      exact bodyPost_ret (results_at2 rfl _ rfl hA1 rowHerd _ rfl) rfl (GivesH.none hM.below rfl HC.out)
    have hOk := herdB_iff.1 hB
    have h14' := hOk.n
    have HND := Lib.hid (fun (ma : Option Addr) (n c m : Nat) (W : World) hO => isNamed_any d hd ma n c m s hs W hO)
    have hFW := fun (W : World) hB hE hG => flockWith_own (r := a 1) d b1 b2 b3 hd none 0 0 (fun _ => 0) (by omega) W hB hE hG hOk (fun j h => absurd h (by omega))
    obtain ⟨hv, hhv⟩ : ∃ f, hdV d b1 b2 b3 = f := ⟨_, rfl⟩
    rw [hhv] at hFW ⊢
    have HFW := Lib.hid hFW
    clear hhv hFW
    rw [hB] at hc
    rw [if_pos rfl] at hc ⊢
    cases hI : inB 0 100 e
    · have HI := Lib.hid hI
      clear hc hB hOk hI
      rw [if_neg (by decide)]
      have tk_x1 : True := trivial; have tk_r : True := trivial; have tk_r1 : True := trivial; have tk_s2 : True := trivial; have tk_f8 : True := trivial; have tk_s1 : True := trivial
      go_enter Tryd.func32, Tryd.ntmps32
      go_wp2_with (first | (have _t := tk_x1; refine wpList_box rfl _ _ rfl _ _ rfl hM ?_; intro x1 W' hx1 hM'; clear hM tk_x1; have hM := hM'; clear hM') | (have _t := tk_r; refine wpList_zero rfl _ rfl zeroHerd hM ?_; intro r W' hr hM'; clear hM tk_r; have hM := hM'; clear hM') | (have _t := tk_r1; refine wpList_get rfl _ _ rfl _ _ rfl hM 1 rfl (rowTab _ _ rfl) (by omega) ?_; simp only [Nat.zero_add]; clear tk_r1) | (go_at_call 64; refine (HFW.out _ ((H0.out.call hM.below).base (Below.refl _ _)) ⟨(HE.out.below hM.below).vars 1 (by omega), HT.out.below hM.below⟩ (.inl rfl)).mono ?_; rintro e' Wf ⟨ma, mc, m, he, hmc0, hMA, hO, hb'⟩; subst he; have hM' := (hM.call hb').withO (o := mapO kvS (keysU d d.n1) (putsU d d.n1)) rfl hO; clear hM hb' hO hMA hmc0; have hM := hM'; clear hM') | (have _t := tk_f8; refine wpList_zero rfl _ rfl (zeroTab _ _ _ rfl) hM ?_; intro f8 W' hf8 hM'; clear hM tk_f8; have hM := hM'; clear hM') | (have _t := tk_s1; refine wpList_lay rfl _ _ _ rfl _ _ rfl _ _ rfl hM 0 rfl (by assumption) (rowTab _ _ rfl) (by omega) (fun k _ => flkV_one _ _ _ _ k) ?_; intro W' hM'; have hM2 := hM'.re 0 rfl (flkV ma d.n1 mc m) (fun k hk => by simp [lay, hk]); simp only [List.set_cons_zero] at hM2; clear hM hM' tk_s1; have hM := hM2; clear hM2) | (go_at_call 81; refine (checkUpTo_no e 100 _ (HE.out.below hM.good.1) HI.out).mono ?_; rintro e W' ⟨rfl, hb'⟩; have hM' := hM.call hb'; clear hM hb'; have hM := hM'; clear hM') | (go_at_call 65; refine (codeOf_1 (HE.out.below hM.good.1)).mono ?_; rintro e' W' ⟨rfl, rfl⟩) | (refine wpList_herd0 rfl rfl ?_) | (have _t := tk_s2; refine wpList_lay rfl _ _ _ rfl _ _ rfl _ _ rfl hM 1 rfl (by assumption) (rowTab _ _ rfl) (by omega) (fun k _ => nil3_one k) ?_; intro W' hM'; clear hM tk_s2; have hM := hM'; clear hM'; simp only [List.set] at hM))
      have hA1 := (hM.ats 1 _ _ _ rfl).congr (g := nil3) (fun j hj => by simp [lay, hj, nil3])
      exact bodyPost_ret (results_at2 rfl _ rfl hA1 rowHerd _ rfl) rfl (GivesH.none hM.good.1 rfl rfl)
    have HI := Lib.hid hI
    rw [hI] at hc
    rw [if_pos rfl] at hc ⊢
    cases hN : nameB s
    · have HNm := Lib.hid hN
      clear hc hB hOk hI hN
      rw [if_pos (by simp)]
      have tk_x1 : True := trivial; have tk_r : True := trivial; have tk_r1 : True := trivial; have tk_s2 : True := trivial; have tk_f8 : True := trivial; have tk_s1 : True := trivial
      go_enter Tryd.func32, Tryd.ntmps32
      go_wp2_with (first | (have _t := tk_x1; refine wpList_box rfl _ _ rfl _ _ rfl hM ?_; intro x1 W' hx1 hM'; clear hM tk_x1; have hM := hM'; clear hM') | (have _t := tk_r; refine wpList_zero rfl _ rfl zeroHerd hM ?_; intro r W' hr hM'; clear hM tk_r; have hM := hM'; clear hM') | (have _t := tk_r1; refine wpList_get rfl _ _ rfl _ _ rfl hM 1 rfl (rowTab _ _ rfl) (by omega) ?_; simp only [Nat.zero_add]; clear tk_r1) | (go_at_call 64; refine (HFW.out _ ((H0.out.call hM.below).base (Below.refl _ _)) ⟨(HE.out.below hM.below).vars 1 (by omega), HT.out.below hM.below⟩ (.inl rfl)).mono ?_; rintro e' Wf ⟨ma, mc, m, he, hmc0, hMA, hO, hb'⟩; subst he; have hM' := (hM.call hb').withO (o := mapO kvS (keysU d d.n1) (putsU d d.n1)) rfl hO; clear hM hb' hO hMA hmc0; have hM := hM'; clear hM') | (have _t := tk_f8; refine wpList_zero rfl _ rfl (zeroTab _ _ _ rfl) hM ?_; intro f8 W' hf8 hM'; clear hM tk_f8; have hM := hM'; clear hM') | (have _t := tk_s1; refine wpList_lay rfl _ _ _ rfl _ _ rfl _ _ rfl hM 0 rfl (by assumption) (rowTab _ _ rfl) (by omega) (fun k _ => flkV_one _ _ _ _ k) ?_; intro W' hM'; have hM2 := hM'.re 0 rfl (flkV ma d.n1 mc m) (fun k hk => by simp [lay, hk]); simp only [List.set_cons_zero] at hM2; clear hM hM' tk_s1; have hM := hM2; clear hM2) | (go_at_call 81; (with_reducible refine (checkUpTo_yes e 100 _ HI.out).mono ?_); rintro e W' ⟨rfl, hb'⟩; have hM' := hM.call hb'; clear hM hb'; have hM := hM'; clear hM') | (go_at_call 82; refine (isName_any s _).mono ?_; rintro e W' ⟨rfl, hb'⟩; rw [HNm.out]; have hM' := hM.call hb'; clear hM hb'; have hM := hM'; clear hM') | (refine wpList_herd0 rfl rfl ?_) | (have _t := tk_s2; refine wpList_lay rfl _ _ _ rfl _ _ rfl _ _ rfl hM 1 rfl (by assumption) (rowTab _ _ rfl) (by omega) (fun k _ => nil3_one k) ?_; intro W' hM'; clear hM tk_s2; have hM := hM'; clear hM'; simp only [List.set] at hM))
      have hA1 := (hM.ats 1 _ _ _ rfl).congr (g := nil3) (fun j hj => by simp [lay, hj, nil3])
      exact bodyPost_ret (results_at2 rfl _ rfl hA1 rowHerd _ rfl) rfl (GivesH.none hM.good.1 rfl rfl)
    have HNm := Lib.hid hN
    rw [hN] at hc
    cases hD : nmdB d s
    · rw [hD] at hc
      simp only [Bool.not_true, Bool.false_or, Bool.false_eq_true, if_false] at hc ⊢
      have HNd := Lib.hid hD
      by_cases h14 : d.n1 = 14
      · rw [if_pos h14]
        have z14 : ((d.n1 : Int) == 14) = true := by rw [h14]; rfl
        have y14 : (d.n1 : Int) = 14 := by omega
        clear hc hB hOk hI hN hD h14
        have tk_x1 : True := trivial; have tk_r : True := trivial; have tk_r1 : True := trivial; have tk_s2 : True := trivial; have tk_f8 : True := trivial; have tk_s1 : True := trivial; have tk_gl : True := trivial; have tk_m1 : True := trivial
        go_enter Tryd.func32, Tryd.ntmps32
        go_wp2_with (first | (have _t := tk_x1; refine wpList_box rfl _ _ rfl _ _ rfl hM ?_; intro x1 W' hx1 hM'; clear hM tk_x1; have hM := hM'; clear hM') | (have _t := tk_r; refine wpList_zero rfl _ rfl zeroHerd hM ?_; intro r W' hr hM'; clear hM tk_r; have hM := hM'; clear hM') | (have _t := tk_r1; refine wpList_get rfl _ _ rfl _ _ rfl hM 1 rfl (rowTab _ _ rfl) (by omega) ?_; simp only [Nat.zero_add]; clear tk_r1) | (go_at_call 64; refine (HFW.out _ ((H0.out.call hM.below).base (Below.refl _ _)) ⟨(HE.out.below hM.below).vars 1 (by omega), HT.out.below hM.below⟩ (.inl rfl)).mono ?_; rintro e' Wf ⟨ma, mc, m, he, hmc0, hMA, hO, hb'⟩; subst he; have hM' := (hM.call hb').withO (o := mapO kvS (keysU d d.n1) (putsU d d.n1)) rfl hO; clear hM hb' hO hMA hmc0; have hM := hM'; clear hM') | (have _t := tk_f8; refine wpList_zero rfl _ rfl (zeroTab _ _ _ rfl) hM ?_; intro f8 W' hf8 hM'; clear hM tk_f8; have hM := hM'; clear hM') | (have _t := tk_s1; refine wpList_lay rfl _ _ _ rfl _ _ rfl _ _ rfl hM 0 rfl (by assumption) (rowTab _ _ rfl) (by omega) (fun k _ => flkV_one _ _ _ _ k) ?_; intro W' hM'; have hM2 := hM'.re 0 rfl (flkV ma d.n1 mc m) (fun k hk => by simp [lay, hk]); simp only [List.set_cons_zero] at hM2; clear hM hM' tk_s1; have hM := hM2; clear hM2) | (go_at_call 81; (with_reducible refine (checkUpTo_yes e 100 _ HI.out).mono ?_); rintro e W' ⟨rfl, hb'⟩; have hM' := hM.call hb'; clear hM hb'; have hM := hM'; clear hM') | (go_at_call 82; refine (isName_any s _).mono ?_; rintro e W' ⟨rfl, hb'⟩; rw [HNm.out]; have hM' := hM.call hb'; clear hM hb'; have hM := hM'; clear hM') | (have _t := tk_gl; refine wpList_gget ?_ _ _ rfl _ _ rfl hM 0 rfl (rowTab _ _ rfl) (by omega) ?_; kernel_rfl; simp only [Nat.zero_add]; clear tk_gl) | (go_at_call 83; refine (HND.out _ d.n1 mc m _ hM.good.2).mono ?_; rintro e W' ⟨rfl, hb'⟩; rw [HNd.out]; have hM' := hM.call hb'; clear hM hb'; have hM := hM'; clear hM') | (have _t := tk_m1; refine wpList_get1 rfl _ _ rfl _ _ rfl hM 0 rfl (cellTab _ rfl) (by omega) (.slice ma d.n1 mc) rfl ?_; clear tk_m1) | (refine wpList_herd0 rfl rfl ?_) | (have _t := tk_s2; refine wpList_lay rfl _ _ _ rfl _ _ rfl _ _ rfl hM 1 rfl (by assumption) (rowTab _ _ rfl) (by omega) (fun k _ => nil3_one k) ?_; intro W' hM'; clear hM tk_s2; have hM := hM'; clear hM'; simp only [List.set] at hM))
        have hA1 := (hM.ats 1 _ _ _ rfl).congr (g := nil3) (fun j hj => by simp [lay, hj, nil3])
        exact bodyPost_ret (results_at2 rfl _ rfl hA1 rowHerd _ rfl) rfl (GivesH.none hM.good.1 rfl rfl)
      · rw [if_neg h14] at hc
        exact absurd rfl hc
    · have HNd := Lib.hid hD
      clear hc hB hOk hI hN hD
      rw [if_pos (by simp)]
      have tk_x1 : True := trivial; have tk_r : True := trivial; have tk_r1 : True := trivial; have tk_s2 : True := trivial; have tk_f8 : True := trivial; have tk_s1 : True := trivial; have tk_gl : True := trivial
      go_enter Tryd.func32, Tryd.ntmps32
      go_wp2_with (first | (have _t := tk_x1; refine wpList_box rfl _ _ rfl _ _ rfl hM ?_; intro x1 W' hx1 hM'; clear hM tk_x1; have hM := hM'; clear hM') | (have _t := tk_r; refine wpList_zero rfl _ rfl zeroHerd hM ?_; intro r W' hr hM'; clear hM tk_r; have hM := hM'; clear hM') | (have _t := tk_r1; refine wpList_get rfl _ _ rfl _ _ rfl hM 1 rfl (rowTab _ _ rfl) (by omega) ?_; simp only [Nat.zero_add]; clear tk_r1) | (go_at_call 64; refine (HFW.out _ ((H0.out.call hM.below).base (Below.refl _ _)) ⟨(HE.out.below hM.below).vars 1 (by omega), HT.out.below hM.below⟩ (.inl rfl)).mono ?_; rintro e' Wf ⟨ma, mc, m, he, hmc0, hMA, hO, hb'⟩; subst he; have hM' := (hM.call hb').withO (o := mapO kvS (keysU d d.n1) (putsU d d.n1)) rfl hO; clear hM hb' hO hMA hmc0; have hM := hM'; clear hM') | (have _t := tk_f8; refine wpList_zero rfl _ rfl (zeroTab _ _ _ rfl) hM ?_; intro f8 W' hf8 hM'; clear hM tk_f8; have hM := hM'; clear hM') | (have _t := tk_s1; refine wpList_lay rfl _ _ _ rfl _ _ rfl _ _ rfl hM 0 rfl (by assumption) (rowTab _ _ rfl) (by omega) (fun k _ => flkV_one _ _ _ _ k) ?_; intro W' hM'; have hM2 := hM'.re 0 rfl (flkV ma d.n1 mc m) (fun k hk => by simp [lay, hk]); simp only [List.set_cons_zero] at hM2; clear hM hM' tk_s1; have hM := hM2; clear hM2) | (go_at_call 81; (with_reducible refine (checkUpTo_yes e 100 _ HI.out).mono ?_); rintro e W' ⟨rfl, hb'⟩; have hM' := hM.call hb'; clear hM hb'; have hM := hM'; clear hM') | (go_at_call 82; refine (isName_any s _).mono ?_; rintro e W' ⟨rfl, hb'⟩; rw [HNm.out]; have hM' := hM.call hb'; clear hM hb'; have hM := hM'; clear hM') | (have _t := tk_gl; refine wpList_gget ?_ _ _ rfl _ _ rfl hM 0 rfl (rowTab _ _ rfl) (by omega) ?_; kernel_rfl; simp only [Nat.zero_add]; clear tk_gl) | (go_at_call 83; refine (HND.out _ d.n1 mc m _ hM.good.2).mono ?_; rintro e W' ⟨rfl, hb'⟩; rw [HNd.out]; have hM' := hM.call hb'; clear hM hb'; have hM := hM'; clear hM') | (refine wpList_herd0 rfl rfl ?_) | (have _t := tk_s2; refine wpList_lay rfl _ _ _ rfl _ _ rfl _ _ rfl hM 1 rfl (by assumption) (rowTab _ _ rfl) (by omega) (fun k _ => nil3_one k) ?_; intro W' hM'; clear hM tk_s2; have hM := hM'; clear hM'; simp only [List.set] at hM))
      have hA1 := (hM.ats 1 _ _ _ rfl).congr (g := nil3) (fun j hj => by simp [lay, hj, nil3])
      exact bodyPost_ret (results_at2 rfl _ rfl hA1 rowHerd _ rfl) rfl (GivesH.none hM.good.1 rfl rfl)
end Go.Proofs.YthodkbmenndnoaaDoor

/-
  impl.checkGrass by contracts.
-/
namespace Go.Proofs.YthodkbmenndnoaaDoor
open Go Go.RowKit Go.BigFrame

end Go.Proofs.YthodkbmenndnoaaDoor

/-
  Errors that are there or not: checks as values; joined errors of two and of three.
-/
namespace Go.Proofs.YthodkbmenndnoaaDoor
open Go Go.RowKit Go.BigFrame

/-- The error x, or none. -/
def errO (x : Addr) (b : Bool) : Value := if b then errV x else .nilIface
theorem errO_one (x : Addr) (b : Bool) : (errO x b).oneCell' = true := by cases b <;> rfl
theorem checkUpTo_any {a : Nat → Addr} (n m : Int) (w : World) (hE : Errs a w) :
    Calls Tryd.prog 81 #[.int .i64 n, .int .i64 m] w fun e w' => e = .returned (errO (a 1) (!inB 0 m n)) ∧ Below w.heap.size w w' := by
  cases h : inB 0 m n
  · exact checkUpTo_no n m w hE h
  · exact checkUpTo_yes n m w h
def es2 (p q : Bool) : Nat → Bool := fun k => if k = 0 then p else q
def es3 (p q r : Bool) : Nat → Bool := fun k => if k = 0 then p else if k = 1 then q else r
theorem lit2_errE (x : Addr) (p q : Bool) : ∀ k, k < 2 → (fun k => if k = 0 then errO x p else errO x q) k = errE x (es2 p q) k := fun k _ => by
  unfold errE es2 errO
  by_cases h : k = 0 <;> simp [h]
theorem lit3_errE (x : Addr) (p q r : Bool) : ∀ k, k < 3 → (fun k => if k = 0 then errO x p else if k = 1 then errO x q else errO x r) k = errE x (es3 p q r) k := fun k _ => by
  unfold errE es3 errO
  by_cases h : k = 0
  · simp [h]
  · by_cases h' : k = 1 <;> simp [h, h']
theorem cnt2_no : cntE (es2 false false) 2 = 0 := by decide
theorem cnt3_no : cntE (es3 false false false) 3 = 0 := by decide
theorem cnt2_yes {p q : Bool} (h : (p || q) = true) : 0 < cntE (es2 p q) 2 := by revert h; cases p <;> cases q <;> decide
theorem cnt3_yes {p q r : Bool} (h : (p || q || r) = true) : 0 < cntE (es3 p q r) 3 := by revert h; cases p <;> cases q <;> cases r <;> decide
end Go.Proofs.YthodkbmenndnoaaDoor

