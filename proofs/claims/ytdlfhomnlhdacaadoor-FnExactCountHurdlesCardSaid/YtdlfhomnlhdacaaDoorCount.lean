/-
  Counting hurdles: spec.l01Bits, math/bits.OnesCount16, spec.l01Hurdles, (impl.Pasture).countHurdles, both CountHurdles by contracts; laws.FnExactCountHurdles returns true.
-/
import Derived.Test.YtdlfhomnlhdacaaDoorGrassAt
import Derived.Test.YtdlfhomnlhdacaaDoorSum
import Derived.Laws.BitsLemmas
namespace Go.Proofs.YtdlfhomnlhdacaaDoor
open Go Go.RowKit Go.BigFrame

/-- How many of the lowest f bits of n are 1. -/
def popF : Nat → Nat → Nat
  | 0, _ => 0
  | f + 1, n => n % 2 + popF f (n / 2)
theorem popF_le : ∀ (f n : Nat), popF f n ≤ f
  | 0, _ => Nat.le_refl _
  | f + 1, n => by have := popF_le f (n / 2); rw [popF]; omega
theorem popF_zero : ∀ f : Nat, popF f 0 = 0
  | 0 => rfl
  | f + 1 => by rw [popF, Nat.zero_div, popF_zero f]
theorem popF_split (n : Nat) : popF 16 n = popF 8 (n / 256) + popF 8 (n % 256) := by
  simp only [popF]; omega
theorem popF_lt : ∀ (f n : Nat), n < 2 ^ f → 0 < n → ∃ e, f = e + 1
  | 0, n, h, h0 => by simp at h; omega
  | f + 1, _, _, _ => ⟨f, rfl⟩

theorem and_mask (i : Nat) (hi : i ≤ 16) (m : Nat) (hm : m < 65536) : bits .and .u16 (m : Int) (2 ^ i - 1) = (m : Int) % 2 ^ i :=
  bits_mask .u16 16 (by decide) (fun n h0 h1 => IntWalk.u16_in n (by omega)) i hi m (by omega) (by omega)

set_option maxHeartbeats 400000 in
theorem l01Bits_any (n : Nat) (hn : n < 65536) (w : World) :
    Calls Tryd.prog 96 #[.int .u16 n] w fun e w' => e = .returned (.int .i64 (popF 16 n)) ∧ Below w.heap.size w w' := by
  go_enter Tryd.func96, Tryd.ntmps96
  go_wp2
  go_loop [0, 3] (fun x s => ∃ f m c : Nat, m < 65536 ∧ m < 2 ^ f ∧ f ≤ 16 ∧ x = .int .u16 m ∧ s = .int .i64 c ∧ c ≤ 16 ∧ Hid (c + popF f m = popF 16 n)) (fun x _ => (intOf x).toNat)
  case atStart => exact ⟨16, n, 0, hn, by omega, by omega, rfl, rfl, by omega, Lib.hid (by omega)⟩
  case round =>
    obtain ⟨f, m, c, hm, hmf, hf, rfl, rfl, hc, hp⟩ := hrel
    by_cases h0 : 0 < m
    · obtain ⟨e, rfl⟩ := popF_lt f m hmf h0
      have l0 : (0 : Int) < m := by omega
      have hand : bits .and .u16 (m : Int) 1 = ((m % 2 : Nat) : Int) := by have := and_mask 1 (by omega) m hm; rw [show ((2 : Int) ^ 1 - 1) = 1 by decide] at this; rw [this]; omega
      have c0 : IntKind.i64.wrap ((m % 2 : Nat) : Int) = ((m % 2 : Nat) : Int) := IntWalk.i64_in _ (by omega)
      have hle : c + m % 2 ≤ 16 := by have := hp.out; rw [popF] at this; have := popF_le 16 n; omega
      have c1 : IntKind.i64.wrap ((c : Int) + ((m % 2 : Nat) : Int)) = ((c + m % 2 : Nat) : Int) := by rw [IntWalk.i64_in _ (by omega)]; omega
      have hpow : m / 2 < 2 ^ e := by rw [Nat.pow_succ] at hmf; omega
      have hp2 : Hid (c + m % 2 + popF e (m / 2) = popF 16 n) := Lib.hid (by have := hp.out; rw [popF] at this; omega)
      clear hmf hp
      go_wp2
      go_round
      case rel => exact ⟨e, m / 2, c + m % 2, by omega, hpow, by omega, by go_num, rfl, hle, hp2⟩
      case measure => simp [intOf]; omega
    · obtain rfl : m = 0 := by omega
      have he : c = popF 16 n := by have := hp.out; rw [popF_zero] at this; omega
      clear hp
      go_wp2
      go_ret
      exact ⟨by rw [← he]; rfl, Below.refl _ _⟩

/-- A table of the counts of all bytes. -/
def tabOk (S : ByteArray) : Bool := S.size == 256 && (List.range 256).all fun k => (S[k]?.map (·.toNat)) == some (popF 8 k)
theorem idx_run (S : ByteArray) (hS : tabOk S = true) {o : Oper} {a : Act} (x : Operand) (ho : o.op = .index 9 (.const (.string S)) x) (i : Nat) (hi : i < 256) (hx : a.eval x = .int .u16 i) (W : World) :
    (execOp a.eval o).run Tryd.prog W = .ok (.value (.int .u8 (popF 8 i))) W := by
  unfold tabOk at hS
  rw [Bool.and_eq_true, List.all_eq_true] at hS
  have hz : S.size = 256 := by simpa using hS.1
  have hk := hS.2 i (List.mem_range.2 hi)
  have hc : a.eval (.const (.string S)) = .string S := rfl
  have hb : 0 ≤ (i : Int) ∧ (i : Int) < S.size := by omega
  have hv : S[i]?.map (·.toNat) = some (popF 8 i) := by simpa using hk
  have hlt : i < S.size := by omega
  have hv2 : (S[i]'hlt).toNat = popF 8 i := by
    have h3 : S[i]? = some (S[i]'hlt) := by rw [ByteArray.getElem?_lt' S _ hlt]
    rw [h3] at hv
    simpa using hv
  unfold execOp
  simp only [ho, hc, hx, Sem.run_bind, Sem.run_pure, run_index_string W 9 S .u16 (i : Int) Tryd.underlying9, dif_pos hb, Result.andThen_ok, Int.toNat_natCast, hv2]

theorem shr_run {o : Oper} {a : Act} {t t2 : TypeId} (x : Operand) (ho : o.op = .binOp .shr t x (.const (.int .u64 8)) t2) (n h : Nat) (hh : n / 256 = h) (hx : a.eval x = .int .u16 n) (W : World) :
    (execOp a.eval o).run Tryd.prog W = .ok (.value (.int .u16 h)) W := by
  have hc : a.eval (.const (.int .u64 8)) = .int .u64 8 := rfl
  have hs : (n : Int) / 2 ^ (Int.toNat 8) = (h : Int) := by rw [show (2 : Int) ^ (Int.toNat 8) = 256 by decide]; omega
  unfold execOp
  simp only [ho, hc, hx, eqGuard_shr, binOp_shr, shift_shr .u16 .u64 (n : Int) 8 (by decide) (by decide), hs, Sem.run_bind, Sem.run_pure, Result.andThen_ok]

theorem and_run {o : Oper} {a : Act} {t t2 : TypeId} (x : Operand) (ho : o.op = .binOp .and t x (.const (.int .u16 255)) t2) (n l : Nat) (hn : n < 65536) (hl : n % 256 = l) (hx : a.eval x = .int .u16 n) (W : World) :
    (execOp a.eval o).run Tryd.prog W = .ok (.value (.int .u16 l)) W := by
  have hc : a.eval (.const (.int .u16 255)) = .int .u16 255 := rfl
  have hs : bits .and .u16 (n : Int) 255 = (l : Int) := by have := and_mask 8 (by omega) n hn; rw [show ((2 : Int) ^ 8 - 1) = 255 by decide] at this; rw [this]; omega
  have hs' : IntKind.u16.wrap ((BitVec.ofInt IntKind.u16.bits (n : Int) &&& BitVec.ofInt IntKind.u16.bits 255).toNat : Int) = (l : Int) := hs
  unfold execOp
  simp only [ho, hc, hx, eqGuard_and, binOp_and, Op.intBits, hs', Sem.run_bind, Sem.run_pure, Result.andThen_ok]

set_option maxRecDepth 100000 in
set_option maxHeartbeats 400000 in
theorem ones_any (n : Nat) (hn : n < 65536) (w : World) :
    Calls Tryd.prog 97 #[.int .u16 n] w fun e w' => e = .returned (.int .i64 (popF 16 n)) ∧ Below w.heap.size w w' := by
  have hM := Mem.nil w
  obtain ⟨h, hh⟩ : ∃ h, n / 256 = h := ⟨_, rfl⟩
  obtain ⟨l, hl⟩ : ∃ l, n % 256 = l := ⟨_, rfl⟩
  have h1 : h < 256 := by omega
  have h2 : l < 256 := by omega
  have l1 := popF_le 8 h
  have l2 := popF_le 8 l
  have hsp := popF_split n
  rw [hh, hl] at hsp
  have l3 := popF_le 16 n
  obtain ⟨u, hu⟩ : ∃ u, popF 8 h = u := ⟨_, rfl⟩
  obtain ⟨v, hv⟩ : ∃ v, popF 8 l = v := ⟨_, rfl⟩
  obtain ⟨z, hz⟩ : ∃ z, popF 16 n = z := ⟨_, rfl⟩
  rw [hu] at l1 hsp
  rw [hv] at l2 hsp
  rw [hz] at l3 hsp ⊢
  have c1 : IntKind.u8.wrap ((u : Int) + (v : Int)) = (z : Int) := by rw [IntWalk.u8_in _ (by omega), hsp]; omega
  have c2 : IntKind.i64.wrap (z : Int) = z := IntWalk.i64_in _ (by omega)
  clear hsp l1 l2 l3
  go_enter Tryd.func97, Tryd.ntmps97
  go_wp2
  ((try simp only [Act.put, List.setIfInBounds_toArray, List.set_cons_succ, List.set_cons_zero]); refine wp_region_mem (by kernel_rfl) (by kernel_rfl) hM ?_; clear hM; (repeat (first | go_big_quiet_skip | (go_big_quiet_want; first | (refine quiet_val ?_; refine ⟨_, fun W => shr_run _ rfl n h hh rfl W, ?_⟩; (simp only [Act.put, List.setIfInBounds_toArray, List.set_cons_succ, List.set_cons_zero]); go_big_quiet_on) | (refine quiet_val ?_; refine ⟨_, fun W => and_run _ rfl n l hn hl rfl W, ?_⟩; (simp only [Act.put, List.setIfInBounds_toArray, List.set_cons_succ, List.set_cons_zero]); go_big_quiet_on) | (refine quiet_val ?_; refine ⟨_, fun W => idx_run _ (by kernel_rfl) _ rfl h h1 rfl W, ?_⟩; (simp only [hu, Act.put, List.setIfInBounds_toArray, List.set_cons_succ, List.set_cons_zero]); go_big_quiet_on) | (refine quiet_val ?_; refine ⟨_, fun W => idx_run _ (by kernel_rfl) _ rfl l h2 rfl W, ?_⟩; (simp only [hv, Act.put, List.setIfInBounds_toArray, List.set_cons_succ, List.set_cons_zero]); go_big_quiet_on) | (refine quiet_val ?_; apply Exists.intro; refine ⟨fun W => ?_, ?_⟩; (go_simp; (try simp only [c1, c2, if_true, Bool.false_eq_true, if_false]); rfl); (simp only [Act.put, List.setIfInBounds_toArray, List.set_cons_succ, List.set_cons_zero]); go_big_quiet_on)))); (with_reducible refine wpQuiet_nil ?_); intro W' hM)
  go_wp2
  go_ret
  exact ⟨rfl, hM.below⟩
end Go.Proofs.YtdlfhomnlhdacaaDoor
