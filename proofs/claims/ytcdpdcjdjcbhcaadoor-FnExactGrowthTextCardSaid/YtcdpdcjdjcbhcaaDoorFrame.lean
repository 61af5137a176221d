/-
  WHAT EVERY LAW's ROW ASKS BEHIND THE WALK: the result true; arguments and named variables read as before, if nothing that lay has turned. And what the arguments are, out of their types.
-/
import Derived.Test.YtcdpdcjdjcbhcaaDoorTypes
import Derived.ProofKit
import Derived.OpenShut
import Derived.OpenVars
import Derived.Carry
namespace Go.Proofs.YtcdpdcjdjcbhcaaDoor
open Go Go.RowKit Go.ChangeShapes Go.WideShapes Go.ChangeAt

section
variable {H : Type} {enc : TypeId × Value → H} {P : Program}
theorem trodAll_below (hl : laidOutB P = true) {W W' : World} (hb : Below W.heap.size W W') : ∀ {ts : List TypeId} {vs : List Value} {ds : List (DataW H)} {p : List MemPlace},
    (∀ t ∈ ts, P.readableRec t = true ∧ t < P.types.size) → DataW.TrodAll enc P W 0 (fun _ => true) true ts vs ds p → (∀ x ∈ p, x.block < W.heap.size) →
    DataW.TrodAll enc P W' 0 (fun b => decide (b < W.heap.size)) true ts vs ds p
  | [], _, _, _, _, h, _ => by
    obtain ⟨rfl, rfl, rfl⟩ := trodAll_nil h
    exact trodAll_mk0
  | t :: ts, _, _, _, ht, h, hlt => by
    obtain ⟨v, vs', d, ds', p, q, rfl, rfl, rfl, h0, r0⟩ := trodAll_cons h
    exact trodAll_cons_mk (Below.trod hl (ht t (by simp)).1 (ht t (by simp)).2 h0 hb (fun x hx => hlt x (by simp [hx])))
      (trodAll_below hl hb (fun t' h' => ht t' (by simp [h'])) r0 (fun x hx => hlt x (by simp [hx])))

theorem law_post {f : Func} {s : ChangeSpec} {W W' : World} {args : Array Value} {ds gs : List (DataW H)} {before : List MemPlace} {tb : TypeId}
    (hl : laidOutB P = true) (hp : ∀ t ∈ f.params.toList, P.readableRec t = true ∧ t < P.types.size) (hv : varsRowed P s.vars = true) (hr : f.resultTypes = #[tb]) (htb : P.underlying tb = some .bool)
    (hW : DataW.Whole enc P f.params.toList s.vars false W args.toList ds gs before) (hs : s.fn H (ds ++ gs) = { results := [.lit (.bool true)], args := ds, vars := gs }) (hb : Below W.heap.size W W') :
    s.post enc P f false true false false W args (.bool true) W' := by
  have hlt := fun p hp => hW.lt p hp
  have hW' := hW
  obtain ⟨p, q, hA, hV, rfl, hfz, hnd⟩ := hW
  refine ⟨ds, gs, _, [], p, q, hW', ?_, ?_, ?_, hb.frame _, fun h => by cases h⟩
  · rw [hs, hr]
    exact trodAll_mk1 (shut_bool htb true)
  · rw [hs]
    exact trodAll_below hl hb hp hA (fun x hx => hlt x (by simp [hx]))
  · rw [hs]
    exact Below.trodVars hl hb hv hV
end

/-- The bounds of an integer kind. -/
theorem has_i8 {n : Int} (h : IntKind.i8.has n) : -128 ≤ n ∧ n ≤ 127 := by
  have e1 : IntKind.i8.min = -128 := by decide
  have e2 : IntKind.i8.max = 127 := by decide
  unfold IntKind.has at h; rw [e1, e2] at h; exact h
theorem has_i16 {n : Int} (h : IntKind.i16.has n) : -32768 ≤ n ∧ n ≤ 32767 := by
  have e1 : IntKind.i16.min = -32768 := by decide
  have e2 : IntKind.i16.max = 32767 := by decide
  unfold IntKind.has at h; rw [e1, e2] at h; exact h
theorem has_u16 {n : Int} (h : IntKind.u16.has n) : 0 ≤ n ∧ n ≤ 65535 := by
  have e1 : IntKind.u16.min = 0 := by decide
  have e2 : IntKind.u16.max = 65535 := by decide
  unfold IntKind.has at h; rw [e1, e2] at h; exact h
theorem has_i64 {n : Int} (h : IntKind.i64.has n) : -9223372036854775808 ≤ n ∧ n ≤ 9223372036854775807 := by
  have e1 : IntKind.i64.min = -9223372036854775808 := by decide
  have e2 : IntKind.i64.max = 9223372036854775807 := by decide
  unfold IntKind.has at h; rw [e1, e2] at h; exact h

theorem cell_int {P : Program} {W : World} {base : Nat} {t : TypeId} {κ : IntKind} {v : Value} (ht : P.underlying t = some (.int κ)) (h : Cell.okWide P W .any base t v) : ∃ n, v = .int κ n ∧ κ.has n := by
  unfold Cell.okWide at h
  rw [ht] at h
  cases v <;> simp only [Cell.ok, ht] at h
  case int k n => exact ⟨n, by rw [h.1], h.2⟩

def numOf : Option Value → Int
  | some (.int _ n) => n
  | _ => 0

/-- The type of each cell of a pasture. -/
def tyOf (k : Nat) : TypeId := if k < 2 then 29 else if k < 102 then 31 else 54

set_option maxRecDepth 100000 in
theorem open_pas {W : World} {base : Nat} {v : Value} (h : Value.okWide Tryd.prog W .any base 57 v) : ∃ g, Fits g ∧ v = .agg (arr 122 (pas g)) := by
  unfold Value.okWide at h
  rw [Tryd.underlying57] at h
  obtain ⟨cs, rfl, hsz, ts, hts, -, hcell⟩ := h
  have e1 : Tryd.prog.cellsOf 57 = 122 := by kernel_rfl
  have e2 : Tryd.prog.cellTypes Tryd.prog.depth 57 = some ((List.range 122).map tyOf) := by kernel_rfl
  rw [e1] at hsz
  obtain rfl : (List.range 122).map tyOf = ts := Option.some.inj (e2.symm.trans hts)
  have key : ∀ k, k < 122 → ∃ v, cs[k]? = some v ∧ Cell.okWide Tryd.prog W .any base (tyOf k) v := fun k hk => by
    have hv : cs[k]? = some cs[k] := Array.getElem?_eq_getElem (by omega)
    obtain ⟨u, hu, hc⟩ := hcell k _ hv
    have hlen : ((List.range 122).map tyOf).length = 122 := by simp
    rw [hlen, Nat.mod_eq_of_lt hk, List.getElem?_map, List.getElem?_range hk] at hu
    obtain rfl : tyOf k = u := by simpa using hu
    exact ⟨_, hv, hc⟩
  have k8 : ∀ k, k < 2 → ∃ n, cs[k]? = some (.int .i8 n) ∧ -128 ≤ n ∧ n ≤ 127 := fun k hk => by
    obtain ⟨v, hv, hc⟩ := key k (by omega)
    have e : tyOf k = 29 := by simp [tyOf, hk]
    rw [e] at hc
    obtain ⟨n, rfl, hn⟩ := cell_int Tryd.underlying29 hc
    exact ⟨n, hv, has_i8 hn⟩
  have k16 : ∀ k, 2 ≤ k → k < 102 → ∃ n, cs[k]? = some (.int .i16 n) ∧ -32768 ≤ n ∧ n ≤ 32767 := fun k hk hk' => by
    obtain ⟨v, hv, hc⟩ := key k (by omega)
    have e : tyOf k = 31 := by unfold tyOf; rw [if_neg (by omega), if_pos hk']
    rw [e] at hc
    obtain ⟨n, rfl, hn⟩ := cell_int Tryd.underlying31 hc
    exact ⟨n, hv, has_i16 hn⟩
  have ku : ∀ k, 102 ≤ k → k < 122 → ∃ n, cs[k]? = some (.int .u16 n) ∧ 0 ≤ n ∧ n ≤ 65535 := fun k hk hk' => by
    obtain ⟨v, hv, hc⟩ := key k (by omega)
    have e : tyOf k = 54 := by unfold tyOf; rw [if_neg (by omega), if_neg (by omega)]
    rw [e] at hc
    obtain ⟨n, rfl, hn⟩ := cell_int Tryd.underlying54 hc
    exact ⟨n, hv, has_u16 hn⟩
  refine ⟨fun k => numOf cs[k]?, ⟨?_, ?_, ?_, ?_⟩, congrArg Value.agg (arr_ext hsz fun k hk => ?_)⟩
  · obtain ⟨n, hn, hb⟩ := k8 0 (by omega); simp only [hn, numOf]; exact hb
  · obtain ⟨n, hn, hb⟩ := k8 1 (by omega); simp only [hn, numOf]; exact hb
  · intro k hk hk'; obtain ⟨n, hn, hb⟩ := k16 k hk hk'; simp only [hn, numOf]; exact hb
  · intro k hk hk'; obtain ⟨n, hn, hb⟩ := ku k hk hk'; simp only [hn, numOf]; exact hb
  · by_cases h2 : k < 2
    · obtain ⟨n, hn, -⟩ := k8 k h2; rw [hn]; simp [pas, kd_i8 h2, hn, numOf]
    · by_cases h3 : k < 102
      · obtain ⟨n, hn, -⟩ := k16 k (by omega) h3; rw [hn]; simp [pas, kd_i16 (by omega) h3, hn, numOf]
      · obtain ⟨n, hn, -⟩ := ku k (by omega) hk; rw [hn]; simp [pas, kd_u16 (show 102 ≤ k by omega), hn, numOf]
/-- The type of each cell of a growth. -/
def tyGr (k : Nat) : TypeId := if k < 11 then 29 else 31
set_option maxRecDepth 100000 in
theorem open_gro {W : World} {base : Nat} {v : Value} (h : Value.okWide Tryd.prog W .any base 33 v) : ∃ g, FitsW g ∧ v = .agg (arr 12 (gro g)) := by
  unfold Value.okWide at h
  rw [Tryd.underlying33] at h
  obtain ⟨cs, rfl, hsz, ts, hts, -, hcell⟩ := h
  have e1 : Tryd.prog.cellsOf 33 = 12 := by kernel_rfl
  have e2 : Tryd.prog.cellTypes Tryd.prog.depth 33 = some ((List.range 12).map tyGr) := by kernel_rfl
  rw [e1] at hsz
  obtain rfl : (List.range 12).map tyGr = ts := Option.some.inj (e2.symm.trans hts)
  have key : ∀ k, k < 12 → ∃ v, cs[k]? = some v ∧ Cell.okWide Tryd.prog W .any base (tyGr k) v := fun k hk => by
    have hv : cs[k]? = some cs[k] := Array.getElem?_eq_getElem (by omega)
    obtain ⟨u, hu, hc⟩ := hcell k _ hv
    have hlen : ((List.range 12).map tyGr).length = 12 := by simp
    rw [hlen, Nat.mod_eq_of_lt hk, List.getElem?_map, List.getElem?_range hk] at hu
    obtain rfl : tyGr k = u := by simpa using hu
    exact ⟨_, hv, hc⟩
  have k8 : ∀ k, k < 11 → ∃ n, cs[k]? = some (.int .i8 n) ∧ -128 ≤ n ∧ n ≤ 127 := fun k hk => by
    obtain ⟨v, hv, hc⟩ := key k (by omega)
    have e : tyGr k = 29 := by simp [tyGr, hk]
    rw [e] at hc
    obtain ⟨n, rfl, hn⟩ := cell_int Tryd.underlying29 hc
    exact ⟨n, hv, has_i8 hn⟩
  obtain ⟨m, hm, bm⟩ : ∃ n, cs[11]? = some (.int .i16 n) ∧ -32768 ≤ n ∧ n ≤ 32767 := by
    obtain ⟨v, hv, hc⟩ := key 11 (by omega)
    have e : tyGr 11 = 31 := rfl
    rw [e] at hc
    obtain ⟨n, rfl, hn⟩ := cell_int Tryd.underlying31 hc
    exact ⟨n, hv, has_i16 hn⟩
  refine ⟨fun k => numOf cs[k]?, ⟨?_, ?_⟩, congrArg Value.agg (arr_ext hsz fun k hk => ?_)⟩
  · intro k hk; obtain ⟨n, hn, hb⟩ := k8 k hk; simp only [hn, numOf]; exact hb
  · simp only [hm, numOf]; exact bm
  · by_cases h2 : k < 11
    · obtain ⟨n, hn, -⟩ := k8 k h2; rw [hn]; simp [gro, grk, h2, hn, numOf]
    · obtain rfl : k = 11 := by omega
      rw [hm]; simp [gro, grk, hm, numOf]
end Go.Proofs.YtcdpdcjdjcbhcaaDoor
