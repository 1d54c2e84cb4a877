/- A tree, somebody and a path, that came in, opened. -/
import Derived.Test.YthmoinagfooncaaDoorTrOpen
import Derived.Test.YthmoinagfooncaaDoorPmOpen
namespace Go.Proofs.YthmoinagfooncaaDoor.Pt
open Go.ChangeShapes Go.WideShapes Go.ChangeAt Go.RowKit Go.Deep

set_option maxRecDepth 100000 in
theorem cellsL : Tryd.prog.cellsOf 48 = 8 := by kernel_rfl
set_option maxRecDepth 100000 in
theorem cellsT : Tryd.prog.cellsOf 28 = 2 := by kernel_rfl
set_option maxRecDepth 100000 in
theorem cellsS : Tryd.prog.cellsOf 9 = 1 := by kernel_rfl
set_option maxRecDepth 100000 in
theorem cellsB : Tryd.prog.cellsOf 4 = 1 := by kernel_rfl
set_option maxRecDepth 100000 in
theorem open_tcells {H : Type} {enc : TypeId × Value → H} {W : World} {base fuel : Nat} {spare : Nat → Bool} {held : Bool} {c0 c1 : Value} {x : DataW H × List MemPlace}
    (hf : DataW.trod enc Tryd.prog W base spare held fuel 28 [c0, c1] = some x) (hz : ∀ n ∈ x.1.weights Tryd.prog 28, n ≤ reachBytes) :
    ∃ (a : Option Addr) (n cap : Nat) (now : Int) (ns : List Tr.Nd), c0 = .slice a n cap ∧ c1 = .int .i64 now ∧ Tr.Ng W a n cap ns ∧ n ≤ 281474976710656 ∧ (∀ i, i < n → Tr.Rb (Tr.nd ns i)) := by
  obtain ⟨xs, n, _, hx, hl, hlen, hfl⟩ := DataW.trod_struct Tryd.underlying28 hf
  match xs, hlen with
  | [y0, y1], _ =>
    have h0 := hfl 0 _ rfl
    have h1 := hfl 1 _ rfl
    obtain ⟨a, len, cap, e0, ns, hng, hn, hrb⟩ := Tr.open_nodes (x := y0) h0 (fun k hk => hz k (by
      rw [hx]; simp only [DataW.weights, Tryd.underlying28, DataW.weightsEach, List.map_cons, List.mem_append]; simp [hk]))
    obtain ⟨a1, e1, _, _⟩ := DataW.trod_int Tryd.underlying3 h1
    have cN : Tryd.prog.cellsOf 26 = 1 := by kernel_rfl
    simp [Tr.cellsI, cN] at e0 e1
    subst e0 e1
    exact ⟨a, len, cap, a1, ns, rfl, rfl, hng, hn, hrb⟩
set_option maxRecDepth 100000 in
theorem open_looking {H : Type} {enc : TypeId × Value → H} {W : World} {base : Nat} {spare : Nat → Bool} {held : Bool} {r : Reach} {b0 : Nat} {v : Value} {d : DataW H} {p : List MemPlace}
    (hval : Value.okWide Tryd.prog W r b0 48 v) (h : DataW.Trod enc Tryd.prog W base spare held 48 v d p) (hz : ∀ n ∈ d.weights Tryd.prog 48, n ≤ reachBytes) :
    ∃ (a : Option Addr) (n cap : Nat) (now : Int) (ns : List Tr.Nd) (e : Pm.Ev) (s : ByteArray) (fo : Bool), v = .agg #[.slice a n cap, .int .i64 now, .int .i64 e.user, .int .i64 e.group, .int .i64 e.mask, .int .i64 e.dir, .string s, .bool fo] ∧ Tr.Ng W a n cap ns ∧ n ≤ 281474976710656 ∧ (∀ i, i < n → Tr.Rb (Tr.nd ns i)) ∧ s.size ≤ reachBytes := by
  obtain ⟨cs, rfl, hsz⟩ := okWide_struct Tryd.underlying48 hval
  rw [cellsL] at hsz
  obtain ⟨fuel, hf⟩ := h
  simp only [Value.cells] at hf
  have hs8 : cs.toList.length = 8 := by simpa using hsz
  obtain ⟨c0, c1, c2, c3, c4, c5, c6, c7, hcs⟩ : ∃ c0 c1 c2 c3 c4 c5 c6 c7, cs.toList = [c0, c1, c2, c3, c4, c5, c6, c7] := by
    match e : cs.toList, hs8 with
    | [c0, c1, c2, c3, c4, c5, c6, c7], _ => exact ⟨c0, c1, c2, c3, c4, c5, c6, c7, rfl⟩
  rw [hcs] at hf
  obtain ⟨xs, n, _, hx, hl, hlen, hfl⟩ := DataW.trod_struct Tryd.underlying48 hf
  match xs, hlen with
  | [y0, y1, y2, y3], _ =>
    have h0 := hfl 0 _ rfl
    have h1 := hfl 1 _ rfl
    have h2 := hfl 2 _ rfl
    have h3 := hfl 3 _ rfl
    simp [cellsT, Pm.cellsE, cellsS, cellsB] at h0 h1 h2 h3
    injection hx with hx1 hx2
    obtain ⟨a, len, cap, now, ns, rfl, rfl, hng, hn, hrb⟩ := open_tcells h0 (fun k hk => hz k (by
      rw [hx1]; simp only [DataW.weights, Tryd.underlying48, DataW.weightsEach, List.map_cons, List.mem_append]; simp [hk]))
    obtain ⟨e, he⟩ := Pm.open_cells (by rfl) h1
    obtain ⟨s, e2, hy2, _⟩ := DataW.trod_string Tryd.underlying9 h2
    obtain ⟨fo, e3, _⟩ := DataW.trod_bool Tryd.underlying4 h3
    simp at he e2 e3
    obtain ⟨rfl, rfl, rfl, rfl⟩ := he
    subst e2 e3
    refine ⟨a, len, cap, now, ns, e, s, fo, ?_, hng, hn, hrb, ?_⟩
    · congr 1
      apply Array.toList_inj.1
      exact hcs
    · exact hz s.data.toList.length (by
        rw [hx1, hy2]; simp [DataW.weights, DataW.weightsEach, Tryd.underlying48])
theorem nat_of_n8 {n : Int} (h : (Lit.int .u8 n).wf = true) : ∃ k : Nat, n = (k : Int) ∧ k < 256 := by
  have h2 : 0 ≤ n ∧ n < 256 := by
    simp [Lit.wf] at h
    have h1 : IntKind.u8.min = 0 := by decide
    have h2 : IntKind.u8.max = 255 := by decide
    rw [h1, h2] at h
    omega
  exact ⟨n.toNat, by omega, by omega⟩
end Go.Proofs.YthmoinagfooncaaDoor.Pt
