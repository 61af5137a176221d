/-
  A herd's three lists: an argument opened.
-/
import Derived.Test.YthonhjbkjgeofaaStringSC
import Derived.Test.YthonhjbkjgeofaaInt16SC
import Derived.Test.YthonhjbkjgeofaaUint16SC
namespace Go.Proofs.Ythonhjbkjgeofaa
open Go Go.RowKit Go.BigFrame Go.ChangeShapes Go.WideShapes Go.Deep

structure Hd where
  n1 : Nat
  n2 : Nat
  n3 : Nat
  ss : Nat → ByteArray
  es : Nat → Int
  fs : Nat → Int
structure FitsH (d : Hd) : Prop where
  l1 : d.n1 ≤ maxLen
  l2 : d.n2 ≤ maxLen
  l3 : d.n3 ≤ maxLen
  s : ∀ i, i < d.n1 → (d.ss i).size ≤ maxLen
  e : ∀ i, i < d.n2 → -32768 ≤ d.es i ∧ d.es i ≤ 32767
  f : ∀ i, i < d.n3 → 0 ≤ d.fs i ∧ d.fs i ≤ 65535
def h3 (a b c : Value) : Nat → Value := fun k => if k = 0 then a else if k = 1 then b else c
def HerdArg (W : World) (v : Value) (d : Hd) : Prop := ∃ v1 v2 v3, v = .agg (arr 3 (h3 v1 v2 v3)) ∧ Arg1 W v1 d.n1 (vStringS d.ss) ∧ Arg1 W v2 d.n2 (vInt16S d.es) ∧ Arg1 W v3 d.n3 (vUint16S d.fs)
theorem HerdArg.below {w W : World} {v : Value} {d : Hd} (h : HerdArg w v d) (hb : Below w.heap.size w W) : HerdArg W v d := by
  obtain ⟨v1, v2, v3, e, h1, h2, h3⟩ := h
  exact ⟨v1, v2, v3, e, h1.below hb, h2.below hb, h3.below hb⟩

section
variable {H : Type} {enc : TypeId × Value → H} {w : World} {base : Nat} {spare : Nat → Bool} {held : Bool}
set_option maxRecDepth 100000 in
theorem open_herd {b0 : Nat} {v : Value} {d : DataW H} {p : List MemPlace} (hval : Value.okWide Try.prog w .any b0 26 v) (h : DataW.Trod enc Try.prog w base spare held 26 v d p) :
    ∃ D : Hd, FitsH D ∧ HerdArg w v D := by
  unfold Value.okWide at hval
  rw [Try.underlying26] at hval
  obtain ⟨cs, rfl, hsz, ts, hts, -, hcell⟩ := hval
  have e1 : Try.prog.cellsOf 26 = 3 := by kernel_rfl
  have e2 : Try.prog.cellTypes Try.prog.depth 26 = some [22, 23, 24] := by kernel_rfl
  rw [e1] at hsz
  obtain rfl : [22, 23, 24] = ts := Option.some.inj (e2.symm.trans hts)
  obtain ⟨fuel, h⟩ := h
  have hcs : (Value.agg cs).cells = cs := rfl
  rw [hcs] at h
  obtain ⟨xs, n, -, -, hlen, hxl, hf⟩ := DataW.trod_struct Try.underlying26 h
  obtain ⟨l⟩ := cs
  simp only [List.size_toArray] at hsz
  have f1 : Try.prog.cellsOf 22 = 1 := by kernel_rfl
  have f2 : Try.prog.cellsOf 23 = 1 := by kernel_rfl
  have f3 : Try.prog.cellsOf 24 = 1 := by kernel_rfl
  match l, hsz with
  | [c0, c1, c2], _ =>
    match xs, hxl with
    | [y0, y1, y2], _ =>
      have h0 := hf 0 _ rfl
      have h1 := hf 1 _ rfl
      have h2 := hf 2 _ rfl
      change DataW.trod _ _ _ _ _ _ _ 22 ((List.drop 0 [c0, c1, c2]).take (Try.prog.cellsOf 22)) = some y0 at h0
      change DataW.trod _ _ _ _ _ _ _ 23 ((List.drop 1 [c0, c1, c2]).take (Try.prog.cellsOf 23)) = some y1 at h1
      change DataW.trod _ _ _ _ _ _ _ 24 ((List.drop 2 [c0, c1, c2]).take (Try.prog.cellsOf 24)) = some y2 at h2
      rw [f1] at h0
      rw [f2] at h1
      rw [f3] at h2
      obtain ⟨u0, hu0, k0⟩ := hcell 0 c0 rfl
      obtain ⟨u1, hu1, k1⟩ := hcell 1 c1 rfl
      obtain ⟨u2, hu2, k2⟩ := hcell 2 c2 rfl
      simp at hu0 hu1 hu2
      subst hu0 hu1 hu2
      obtain ⟨n1, ss, hn1, hs, A1⟩ := openStringS k0 h0
      obtain ⟨n2, es, hn2, he, A2⟩ := openInt16S k1 h1
      obtain ⟨n3, fs, hn3, hf', A3⟩ := openUint16S k2 h2
      refine ⟨⟨n1, n2, n3, ss, es, fs⟩, ⟨hn1, hn2, hn3, hs, he, hf'⟩, c0, c1, c2, ?_, A1, A2, A3⟩
      rfl
end
end Go.Proofs.Ythonhjbkjgeofaa
