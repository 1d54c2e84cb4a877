/- Somebody with a node, that came in, opened. -/
import Derived.Test.YtngljliollbcnaaPmOpen
namespace Go.Proofs.Ytngljliollbcnaa.Pm
open Go.ChangeShapes Go.WideShapes Go.ChangeAt Go.RowKit Go.Deep

theorem cellsW : Try.prog.cellsOf 44 = 9 := by kernel_rfl
theorem cellsU8 : Try.prog.cellsOf 5 = 1 := by kernel_rfl
theorem cellsU16 : Try.prog.cellsOf 42 = 1 := by kernel_rfl
abbrev wa (k m o u g : Nat) (e : Ev) : Array Value := #[.int .u8 k, .int .u16 m, .int .u16 o, .int .u16 u, .int .u16 g, .int .i64 e.user, .int .i64 e.group, .int .i64 e.mask, .int .i64 e.dir]
theorem open_wcells {H : Type} {enc : TypeId × Value → H} {W : World} {base fuel : Nat} {spare : Nat → Bool} {held : Bool} {cs : List Value} {x : DataW H × List MemPlace} (hl : cs.length = 9)
    (hf : DataW.trod enc Try.prog W base spare held fuel 44 cs = some x) : ∃ (k m o u g : Nat) (e : Ev), cs = (wa k m o u g e).toList ∧ k < 256 ∧ m < 65536 ∧ o < 65536 ∧ u < 65536 ∧ g < 65536 := by
  match cs, hl with
  | [c0, c1, c2, c3, c4, c5, c6, c7, c8], _ =>
    obtain ⟨xs, n, _, _, hl, hlen, hfl⟩ := DataW.trod_struct Try.underlying44 hf
    match xs, hlen with
    | [y0, y1, y2, y3, y4, y5], _ =>
      obtain ⟨a0, e0, _, w0⟩ := DataW.trod_int Try.underlying5 (hfl 0 _ rfl)
      obtain ⟨a1, e1, _, w1⟩ := DataW.trod_int Try.underlying42 (hfl 1 _ rfl)
      obtain ⟨a2, e2, _, w2⟩ := DataW.trod_int Try.underlying42 (hfl 2 _ rfl)
      obtain ⟨a3, e3, _, w3⟩ := DataW.trod_int Try.underlying42 (hfl 3 _ rfl)
      obtain ⟨a4, e4, _, w4⟩ := DataW.trod_int Try.underlying42 (hfl 4 _ rfl)
      have h5 := hfl 5 _ rfl
      obtain ⟨e, e5⟩ := open_cells (by simp [cellsE]) h5
      simp [cellsE, cellsU8, cellsU16] at e0 e1 e2 e3 e4 e5
      obtain ⟨k, rfl, hk⟩ := u8_nat a0 w0
      obtain ⟨m, rfl, hm⟩ := u16_nat a1 w1
      obtain ⟨o, rfl, ho⟩ := u16_nat a2 w2
      obtain ⟨u, rfl, hu⟩ := u16_nat a3 w3
      obtain ⟨g, rfl, hg⟩ := u16_nat a4 w4
      obtain ⟨rfl, rfl, rfl, rfl⟩ := e5
      subst e0 e1 e2 e3 e4
      exact ⟨k, m, o, u, g, e, rfl, hk, hm, ho, hu, hg⟩
theorem open_who {H : Type} {enc : TypeId × Value → H} {W : World} {base : Nat} {spare : Nat → Bool} {held : Bool} {r : Reach} {b0 : Nat} {v : Value} {d : DataW H} {p : List MemPlace}
    (hval : Value.okWide Try.prog W r b0 44 v) (h : DataW.Trod enc Try.prog W base spare held 44 v d p) : ∃ (k m o u g : Nat) (e : Ev), v = .agg (wa k m o u g e) ∧ k < 256 ∧ m < 65536 ∧ o < 65536 ∧ u < 65536 ∧ g < 65536 := by
  obtain ⟨cs, rfl, hsz⟩ := okWide_struct Try.underlying44 hval
  rw [cellsW] at hsz
  obtain ⟨fuel, hf⟩ := h
  simp only [Value.cells] at hf
  obtain ⟨k, m, o, u, g, e, hc, hr⟩ := open_wcells (by simpa using hsz) hf
  exact ⟨k, m, o, u, g, e, by rw [← Array.toArray_toList (xs := cs), hc], hr⟩
end Go.Proofs.Ytngljliollbcnaa.Pm
