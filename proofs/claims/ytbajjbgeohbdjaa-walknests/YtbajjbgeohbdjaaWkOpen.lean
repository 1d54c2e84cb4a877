/- A tree, somebody, a path and a number, that came in, opened. -/
import Derived.Test.YtbajjbgeohbdjaaTrOpen
import Derived.Test.YtbajjbgeohbdjaaPmOpen
import Derived.Test.YtbajjbgeohbdjaaWkGreat
namespace Go.Proofs.Ytbajjbgeohbdjaa.Wk
open Go.ChangeShapes Go.WideShapes Go.ChangeAt Go.RowKit Go.Deep

set_option maxRecDepth 100000 in
theorem cellsW : Try.prog.cellsOf 28 = 8 := by kernel_rfl
set_option maxRecDepth 100000 in
theorem cellsT : Try.prog.cellsOf 24 = 2 := by kernel_rfl
set_option maxRecDepth 100000 in
theorem cellsS : Try.prog.cellsOf 9 = 1 := by kernel_rfl
set_option maxRecDepth 100000 in
theorem open_tcells {H : Type} {enc : TypeId × Value → H} {W : World} {base fuel : Nat} {spare : Nat → Bool} {held : Bool} {c0 c1 : Value} {x : DataW H × List MemPlace}
    (hf : DataW.trod enc Try.prog W base spare held fuel 24 [c0, c1] = some x) (hz : ∀ n ∈ x.1.weights Try.prog 24, n ≤ reachBytes) :
    ∃ (a : Option Addr) (n cap : Nat) (now : Int) (ns : List Tr.Nd), c0 = .slice a n cap ∧ c1 = .int .i64 now ∧ Tr.Ng W a n cap ns ∧ n ≤ 281474976710656 ∧ (∀ i, i < n → Tr.Rb (Tr.nd ns i)) := by
  obtain ⟨xs, n, _, hx, hl, hlen, hfl⟩ := DataW.trod_struct Try.underlying24 hf
  match xs, hlen with
  | [y0, y1], _ =>
    have h0 := hfl 0 _ rfl
    have h1 := hfl 1 _ rfl
    obtain ⟨a, len, cap, e0, ns, hng, hn, hrb⟩ := Tr.open_nodes (x := y0) h0 (fun k hk => hz k (by
      rw [hx]; simp only [DataW.weights, Try.underlying24, DataW.weightsEach, List.map_cons, List.mem_append]; simp [hk]))
    obtain ⟨a1, e1, _, _⟩ := DataW.trod_int Try.underlying3 h1
    have cN : Try.prog.cellsOf 22 = 1 := by kernel_rfl
    simp [Tr.cellsI, cN] at e0 e1
    subst e0 e1
    exact ⟨a, len, cap, a1, ns, rfl, rfl, hng, hn, hrb⟩
set_option maxRecDepth 100000 in
theorem open_walking {H : Type} {enc : TypeId × Value → H} {W : World} {base : Nat} {spare : Nat → Bool} {held : Bool} {r : Reach} {b0 : Nat} {v : Value} {d : DataW H} {p : List MemPlace}
    (hval : Value.okWide Try.prog W r b0 28 v) (h : DataW.Trod enc Try.prog W base spare held 28 v d p) (hz : ∀ n ∈ d.weights Try.prog 28, n ≤ reachBytes) :
    ∃ (a : Option Addr) (n cap : Nat) (now : Int) (ns : List Tr.Nd) (e : Pm.Ev) (s : ByteArray) (deep : Int), v = .agg (wa a n cap now e s deep) ∧ Tr.Ng W a n cap ns ∧ n ≤ 281474976710656 ∧ (∀ i, i < n → Tr.Rb (Tr.nd ns i)) ∧ s.size ≤ reachBytes := by
  obtain ⟨cs, rfl, hsz⟩ := okWide_struct Try.underlying28 hval
  rw [cellsW] at hsz
  obtain ⟨fuel, hf⟩ := h
  simp only [Value.cells] at hf
  have hs8 : cs.toList.length = 8 := by simpa using hsz
  obtain ⟨c0, c1, c2, c3, c4, c5, c6, c7, hcs⟩ : ∃ c0 c1 c2 c3 c4 c5 c6 c7, cs.toList = [c0, c1, c2, c3, c4, c5, c6, c7] := by
    match e : cs.toList, hs8 with
    | [c0, c1, c2, c3, c4, c5, c6, c7], _ => exact ⟨c0, c1, c2, c3, c4, c5, c6, c7, rfl⟩
  rw [hcs] at hf
  obtain ⟨xs, n, _, hx, hl, hlen, hfl⟩ := DataW.trod_struct Try.underlying28 hf
  match xs, hlen with
  | [y0, y1, y2, y3], _ =>
    have h0 := hfl 0 _ rfl
    have h1 := hfl 1 _ rfl
    have h2 := hfl 2 _ rfl
    have h3 := hfl 3 _ rfl
    simp [cellsT, Pm.cellsE, cellsS, Tr.cellsI] at h0 h1 h2 h3
    injection hx with hx1 hx2
    obtain ⟨a, len, cap, now, ns, rfl, rfl, hng, hn, hrb⟩ := open_tcells h0 (fun k hk => hz k (by
      rw [hx1]; simp only [DataW.weights, Try.underlying28, DataW.weightsEach, List.map_cons, List.mem_append]; simp [hk]))
    obtain ⟨e, he⟩ := Pm.open_cells (by rfl) h1
    obtain ⟨s, e2, hy2, _⟩ := DataW.trod_string Try.underlying9 h2
    obtain ⟨deep, e3, _, _⟩ := DataW.trod_int Try.underlying3 h3
    simp at he e2 e3
    obtain ⟨rfl, rfl, rfl, rfl⟩ := he
    subst e2 e3
    refine ⟨a, len, cap, now, ns, e, s, deep, ?_, hng, hn, hrb, ?_⟩
    · congr 1
      apply Array.toList_inj.1
      exact hcs
    · exact hz s.data.toList.length (by
        rw [hx1, hy2]; simp [DataW.weights, DataW.weightsEach, Try.underlying28])
end Go.Proofs.Ytbajjbgeohbdjaa.Wk
