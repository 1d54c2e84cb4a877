/- Six bytes, by value, opened. -/
import Derived.Test.YtfffhdbicldihabDoorKyOpen
namespace Go.Proofs.YtfffhdbicldihabDoor.Ky
open Go.RowKit Go.ChangeShapes Go.WideShapes

theorem okWide_arr {P : Program} {w : World} {r : Reach} {base : Nat} {t e : TypeId} {v : Value} {n : Nat} (ht : P.underlying t = some (.array n e)) (h : Value.okWide P w r base t v) : ∃ cs, v = .agg cs ∧ cs.size = P.cellsOf t := by
  simp only [Value.okWide, ht] at h
  obtain ⟨cs, h1, h2, _⟩ := h
  exact ⟨cs, h1, h2⟩
theorem array6 {α : Type} {cs : Array α} (h : cs.size = 6) : ∃ c0 c1 c2 c3 c4 c5, cs = #[c0, c1, c2, c3, c4, c5] := by
  obtain ⟨l⟩ := cs
  match l, h with
  | [c0, c1, c2, c3, c4, c5], _ => exact ⟨c0, c1, c2, c3, c4, c5, rfl⟩
theorem cellsS : Tryd.prog.cellsOf 23 = 6 := by kernel_rfl
set_option maxRecDepth 100000 in
theorem open_six {H : Type} {enc : TypeId × Value → H} {W : World} {base : Nat} {spare : Nat → Bool} {held : Bool} {r : Reach} {b0 : Nat} {v : Value} {d : DataW H} {p : List MemPlace}
    (hval : Value.okWide Tryd.prog W r b0 23 v) (h : DataW.Trod enc Tryd.prog W base spare held 23 v d p) :
    ∃ a0 a1 a2 a3 a4 a5 : UInt8, v = .agg #[.int .u8 (a0.toNat : Int), .int .u8 (a1.toNat : Int), .int .u8 (a2.toNat : Int), .int .u8 (a3.toNat : Int), .int .u8 (a4.toNat : Int), .int .u8 (a5.toNat : Int)] := by
  obtain ⟨cs, rfl, hsz⟩ := okWide_arr Tryd.underlying23 hval
  rw [cellsS] at hsz
  obtain ⟨c0, c1, c2, c3, c4, c5, rfl⟩ := array6 hsz
  obtain ⟨fuel, hf⟩ := h
  obtain ⟨xs, n, _, _, hl, hlen, hfl⟩ := DataW.trod_array Tryd.underlying23 hf
  match xs, hlen with
  | [y0, y1, y2, y3, y4, y5], _ =>
    have h0 := hfl 0 (by decide)
    have h1 := hfl 1 (by decide)
    have h2 := hfl 2 (by decide)
    have h3 := hfl 3 (by decide)
    have h4 := hfl 4 (by decide)
    have h5 := hfl 5 (by decide)
    simp [cellsU, Value.cells] at h0 h1 h2 h3 h4 h5
    obtain ⟨a0, e0, _, w0⟩ := DataW.trod_int Tryd.underlying5 h0
    obtain ⟨a1, e1, _, w1⟩ := DataW.trod_int Tryd.underlying5 h1
    obtain ⟨a2, e2, _, w2⟩ := DataW.trod_int Tryd.underlying5 h2
    obtain ⟨a3, e3, _, w3⟩ := DataW.trod_int Tryd.underlying5 h3
    obtain ⟨a4, e4, _, w4⟩ := DataW.trod_int Tryd.underlying5 h4
    obtain ⟨a5, e5, _, w5⟩ := DataW.trod_int Tryd.underlying5 h5
    obtain ⟨b0, rfl⟩ := u8_back a0 w0
    obtain ⟨b1, rfl⟩ := u8_back a1 w1
    obtain ⟨b2, rfl⟩ := u8_back a2 w2
    obtain ⟨b3, rfl⟩ := u8_back a3 w3
    obtain ⟨b4, rfl⟩ := u8_back a4 w4
    obtain ⟨b5, rfl⟩ := u8_back a5 w5
    simp at e0 e1 e2 e3 e4 e5
    exact ⟨b0, b1, b2, b3, b4, b5, by rw [e0, e1, e2, e3, e4, e5]⟩
end Go.Proofs.YtfffhdbicldihabDoor.Ky
