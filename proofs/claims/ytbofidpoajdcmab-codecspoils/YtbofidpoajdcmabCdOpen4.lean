/- Four bytes by value that came in, opened. -/
import Derived.Test.YtbofidpoajdcmabCdOpen
namespace Go.Proofs.Ytbofidpoajdcmab.Cd
open Go.ChangeShapes Go.WideShapes Go.ChangeAt Go.RowKit

theorem u16_back (n : Int) (h : (Lit.int .u16 n).wf = true) : ∃ k : Nat, n = (k : Int) ∧ k < 65536 := by
  have h2 : 0 ≤ n ∧ n < 65536 := by
    simp [Lit.wf] at h
    have h1 : IntKind.u16.min = 0 := by decide
    have h2 : IntKind.u16.max = 65535 := by decide
    rw [h1, h2] at h
    omega
  exact ⟨n.toNat, by omega, by omega⟩
theorem okWide_arr {P : Program} {w : World} {r : Reach} {base : Nat} {t e : TypeId} {v : Value} {n : Nat} (ht : P.underlying t = some (.array n e)) (h : Value.okWide P w r base t v) : ∃ cs, v = .agg cs ∧ cs.size = P.cellsOf t := by
  simp only [Value.okWide, ht] at h
  obtain ⟨cs, h1, h2, _⟩ := h
  exact ⟨cs, h1, h2⟩
theorem u8_back (n : Int) (h : (Lit.int .u8 n).wf = true) : ∃ c : UInt8, n = (c.toNat : Int) := ⟨toB n, (toB_nat (wf_u8 h)).symm⟩
theorem cells8 : Try.prog.cellsOf 5 = 1 := by kernel_rfl
theorem cells84 : Try.prog.cellsOf 36 = 4 := by kernel_rfl
set_option maxRecDepth 100000 in
theorem open_four {H : Type} {enc : TypeId × Value → H} {W : World} {base : Nat} {spare : Nat → Bool} {held : Bool} {r : Reach} {b0 : Nat} {v : Value} {d : DataW H} {p : List MemPlace}
    (hval : Value.okWide Try.prog W r b0 36 v) (h : DataW.Trod enc Try.prog W base spare held 36 v d p) : ∃ x y z u : UInt8, v = .agg #[.int .u8 (x.toNat : Int), .int .u8 (y.toNat : Int), .int .u8 (z.toNat : Int), .int .u8 (u.toNat : Int)] := by
  obtain ⟨cs, rfl, hsz⟩ := okWide_arr Try.underlying36 hval
  rw [cells84] at hsz
  obtain ⟨l⟩ := cs
  match l, hsz with
  | [c0, c1, c2, c3], _ =>
    obtain ⟨fuel, hf⟩ := h
    obtain ⟨xs, n, _, _, hl, hlen, hfl⟩ := DataW.trod_array Try.underlying36 hf
    match xs, hlen with
    | [y0, y1, y2, y3], _ =>
      have h0 := hfl 0 (by decide)
      have h1 := hfl 1 (by decide)
      have h2 := hfl 2 (by decide)
      have h3 := hfl 3 (by decide)
      simp [cells8, Value.cells] at h0 h1 h2 h3
      obtain ⟨a0, e0, _, w0⟩ := DataW.trod_int Try.underlying5 h0
      obtain ⟨a1, e1, _, w1⟩ := DataW.trod_int Try.underlying5 h1
      obtain ⟨a2, e2, _, w2⟩ := DataW.trod_int Try.underlying5 h2
      obtain ⟨a3, e3, _, w3⟩ := DataW.trod_int Try.underlying5 h3
      obtain ⟨x, rfl⟩ := u8_back a0 w0
      obtain ⟨y, rfl⟩ := u8_back a1 w1
      obtain ⟨z, rfl⟩ := u8_back a2 w2
      obtain ⟨u, rfl⟩ := u8_back a3 w3
      simp at e0 e1 e2 e3
      subst e0 e1 e2 e3
      exact ⟨x, y, z, u, rfl⟩
end Go.Proofs.Ytbofidpoajdcmab.Cd
