/- Two dresses of a number, by value, opened. -/
import Derived.Test.YtfffhdbicldihaaDoorKyOpen
import Derived.Test.YtfffhdbicldihaaDoorKyTolds
namespace Go.Proofs.YtfffhdbicldihaaDoor.Ky
open Go.RowKit Go.ChangeShapes Go.WideShapes

theorem okWide_arr {P : Program} {w : World} {r : Reach} {base : Nat} {t e : TypeId} {v : Value} {n : Nat} (ht : P.underlying t = some (.array n e)) (h : Value.okWide P w r base t v) : ∃ cs, v = .agg cs ∧ cs.size = P.cellsOf t := by
  simp only [Value.okWide, ht] at h
  obtain ⟨cs, h1, h2, _⟩ := h
  exact ⟨cs, h1, h2⟩
theorem array10 {α : Type} {cs : Array α} (h : cs.size = 10) : ∃ c0 c1 c2 c3 c4 c5 c6 c7 c8 c9, cs = #[c0, c1, c2, c3, c4, c5, c6, c7, c8, c9] := by
  obtain ⟨l⟩ := cs
  match l, h with
  | [c0, c1, c2, c3, c4, c5, c6, c7, c8, c9], _ => exact ⟨c0, c1, c2, c3, c4, c5, c6, c7, c8, c9, rfl⟩
theorem cellsD : Tryd.prog.cellsOf 35 = 5 := by kernel_rfl
theorem cellsD2 : Tryd.prog.cellsOf 36 = 10 := by kernel_rfl
theorem open_dress {H : Type} {enc : TypeId × Value → H} {W : World} {base : Nat} {spare : Nat → Bool} {held : Bool} {fuel : Nat} {c0 c1 c2 c3 c4 : Value} {y : DataW H × List MemPlace}
    (hf : DataW.trod enc Tryd.prog W base spare held fuel 35 [c0, c1, c2, c3, c4] = some y) :
    ∃ x : Drs, c0 = .int .u8 (x.ah.toNat : Int) ∧ c1 = .int .u8 (x.bh.toNat : Int) ∧ c2 = .int .u8 (x.bk.toNat : Int) ∧ c3 = .int .u8 (x.en.toNat : Int) ∧ c4 = .bool x.pt := by
  obtain ⟨xs, n, _, _, hl, hlen, hfl⟩ := DataW.trod_struct Tryd.underlying35 hf
  match xs, hlen with
  | [y0, y1, y2, y3, y4], _ =>
    have h0 := hfl 0 _ rfl
    have h1 := hfl 1 _ rfl
    have h2 := hfl 2 _ rfl
    have h3 := hfl 3 _ rfl
    have h4 := hfl 4 _ rfl
    obtain ⟨a0, e0, _, w0⟩ := DataW.trod_int Tryd.underlying5 h0
    obtain ⟨a1, e1, _, w1⟩ := DataW.trod_int Tryd.underlying5 h1
    obtain ⟨a2, e2, _, w2⟩ := DataW.trod_int Tryd.underlying5 h2
    obtain ⟨a3, e3, _, w3⟩ := DataW.trod_int Tryd.underlying5 h3
    obtain ⟨a4, e4, _⟩ := DataW.trod_bool Tryd.underlying4 h4
    obtain ⟨b0, rfl⟩ := u8_back a0 w0
    obtain ⟨b1, rfl⟩ := u8_back a1 w1
    obtain ⟨b2, rfl⟩ := u8_back a2 w2
    obtain ⟨b3, rfl⟩ := u8_back a3 w3
    simp [cellsB, cellsU] at e0 e1 e2 e3 e4
    exact ⟨⟨b0, b1, b2, b3, a4⟩, e0, e1, e2, e3, e4⟩
set_option maxRecDepth 100000 in
theorem open_dress2 {H : Type} {enc : TypeId × Value → H} {W : World} {base : Nat} {spare : Nat → Bool} {held : Bool} {r : Reach} {b0 : Nat} {v : Value} {d : DataW H} {p : List MemPlace}
    (hval : Value.okWide Tryd.prog W r b0 36 v) (h : DataW.Trod enc Tryd.prog W base spare held 36 v d p) :
    ∃ x y : Drs, v = .agg #[.int .u8 (x.ah.toNat : Int), .int .u8 (x.bh.toNat : Int), .int .u8 (x.bk.toNat : Int), .int .u8 (x.en.toNat : Int), .bool x.pt, .int .u8 (y.ah.toNat : Int), .int .u8 (y.bh.toNat : Int), .int .u8 (y.bk.toNat : Int), .int .u8 (y.en.toNat : Int), .bool y.pt] := by
  obtain ⟨cs, rfl, hsz⟩ := okWide_arr Tryd.underlying36 hval
  rw [cellsD2] at hsz
  obtain ⟨c0, c1, c2, c3, c4, c5, c6, c7, c8, c9, rfl⟩ := array10 hsz
  obtain ⟨fuel, hf⟩ := h
  obtain ⟨xs, n, _, _, hl, hlen, hfl⟩ := DataW.trod_array Tryd.underlying36 hf
  match xs, hlen with
  | [y0, y1], _ =>
    have h0 := hfl 0 (by decide)
    have h1 := hfl 1 (by decide)
    simp [cellsD, Value.cells] at h0 h1
    obtain ⟨x, rfl, rfl, rfl, rfl, rfl⟩ := open_dress h0
    obtain ⟨y, rfl, rfl, rfl, rfl, rfl⟩ := open_dress h1
    exact ⟨x, y, rfl⟩
end Go.Proofs.YtfffhdbicldihaaDoor.Ky
