/- What New and Small answer. -/
import Derived.Test.YtbajjbgeohbdjaaTrStatW
import Derived.Test.YtbajjbgeohbdjaaTrOwn
import Derived.Lib.SlBytesConst
namespace Go.Proofs.Ytbajjbgeohbdjaa.Tr
open Go.RowKit Go.Proofs.Ytbajjbgeohbdjaa.Cu

abbrev noS : Value := .slice none 0 0
abbrev noT : Value := .string ⟨#[]⟩
abbrev newA : Array Value := #[.int .u8 0, .int .i64 0, .int .i64 0, .int .i64 0, .int .i64 0, .int .i64 0, noS, noT, noS, .int .i64 0, .int .u8 2, .int .i64 493, .int .i64 0, .int .i64 0, .int .i64 2, .int .i64 0, noS, noT, noS, .int .i64 1]
set_option maxRecDepth 100000 in
set_option maxHeartbeats 1000000 in
theorem new_any (w : World) : Calls Try.prog 25 #[] w fun e w' => e = .returned (.agg #[.slice (some ⟨w.heap.size + 1, 0, none⟩) 2 2, .int .i64 0]) ∧ w'.heap[w.heap.size + 1]? = some (.cells newA 42) ∧ Below w.heap.size w w' := by
  go_enter Try.func25, Try.ntmps25
  go_wp2
  refine bodyPost_ret (v := .agg #[.slice (some ⟨w.heap.size + 1, 0, none⟩) 2 2, .int .i64 0]) (by simp [results, Try.results25, go_sem]) rfl ⟨rfl, ?_, ((Below.refl _ _).alloc (Nat.le_refl _) _).alloc (by simp) _⟩
  have h := heap_alloc_new (w.alloc (.cells #[.slice (some ⟨w.heap.size + 1, 0, none⟩) 2 2, .int .i64 0] 24)) (.cells newA 42)
  rw [World.size_alloc] at h
  exact h
/-- the chapter's tree, in memory: what Small lays behind the root -/
abbrev smA (e1 : Value) : Array Value := #[.int .u8 0, .int .i64 0, .int .i64 0, .int .i64 0, .int .i64 0, .int .i64 0, noS, noT, noS, .int .i64 0, .int .u8 2, .int .i64 493, .int .i64 0, .int .i64 0, .int .i64 3, .int .i64 0, noS, noT, e1, .int .i64 1]
/-- the chapter's tree -/
def small : List Nd := [nz, ⟨2, 493, 0, 0, 3, 0, [], ⟨#[]⟩, [⟨⟨#[97]⟩, 2⟩], 1⟩, ⟨2, 493, 0, 0, 2, 0, [], ⟨#[]⟩, [⟨⟨#[98]⟩, 3⟩], 1⟩, ⟨1, 420, 0, 0, 1, 0, [104, 101, 108, 108, 111], ⟨#[]⟩, [], 0⟩]
def newT : List Nd := [nz, ⟨2, 493, 0, 0, 2, 0, [], ⟨#[]⟩, [], 1⟩]
theorem Try.infoNode : (Try.prog.info? 42).map (fun i => (i.zero, i.size, i.bytes)) = some (some (.agg (na nz noS noS)), 10, 120) := by kernel_rfl
/-- the world in which Small appends -/
structure Sw (w w6 : World) (G T E : Nat) : Prop where
  below : Below w.heap.size w w6
  box : w6.heap[w.heap.size]? = some (.cells #[noS, .int .i64 0] 24)
  hG : w6.heap[G]? = some (.cells (smA (.slice (some ⟨E, 0, none⟩) 1 1)) 42)
  hT : w6.heap[T]? = some (.cells #[.slice (some ⟨G, 0, none⟩) 2 2, .int .i64 0] 24)
  hE : w6.heap[E]? = some (.cells #[.string ⟨#[97]⟩, .int .i64 2] 71)
  lt : w.heap.size < G ∧ G < T ∧ T < E ∧ E < w6.heap.size
theorem sw_first {w w1 : World} (hG : w1.heap[w.heap.size + 1 + 1]? = some (.cells newA 42)) (hbox : w1.heap[w.heap.size]? = some (.cells #[noS, .int .i64 0] 24)) (b1 : Below w.heap.size w w1) :
    Sw w ((((w1.setCell ⟨w.heap.size + 1 + 1, 18, none⟩ (.slice (some ⟨w1.heap.size + 1, 0, none⟩) 1 1)).setCell ⟨w.heap.size + 1 + 1, 14, none⟩ (.int .i64 3)).alloc (.cells #[.slice (some ⟨w.heap.size + 1 + 1, 0, none⟩) 2 2, .int .i64 0] 24)).alloc (.cells #[.string ⟨#[97]⟩, .int .i64 2] 71)) (w.heap.size + 1 + 1) w1.heap.size (w1.heap.size + 1) := by
  have hGl : w.heap.size + 1 + 1 < w1.heap.size := (Array.getElem?_eq_some_iff.1 hG).1
  have g1 := heap_setCell_same w1 (w.heap.size + 1 + 1) 18 newA 42 (.slice (some ⟨w1.heap.size + 1, 0, none⟩) 1 1) hG
  have k1 : (w1.setCell ⟨w.heap.size + 1 + 1, 18, none⟩ (.slice (some ⟨w1.heap.size + 1, 0, none⟩) 1 1)).heap[w.heap.size]? = _ := (heap_setCell_other w1 ⟨w.heap.size + 1 + 1, 18, none⟩ w.heap.size (.slice (some ⟨w1.heap.size + 1, 0, none⟩) 1 1) (show w.heap.size ≠ w.heap.size + 1 + 1 by omega)).trans hbox
  have bb1 : Below w.heap.size w (w1.setCell ⟨w.heap.size + 1 + 1, 18, none⟩ (.slice (some ⟨w1.heap.size + 1, 0, none⟩) 1 1)) := b1.setCell (p := ⟨w.heap.size + 1 + 1, 18, none⟩) (show w.heap.size ≤ w.heap.size + 1 + 1 by omega) _
  have z1 : (w1.setCell ⟨w.heap.size + 1 + 1, 18, none⟩ (.slice (some ⟨w1.heap.size + 1, 0, none⟩) 1 1)).heap.size = w1.heap.size := World.size_setCell _ _ _
  generalize w1.setCell ⟨w.heap.size + 1 + 1, 18, none⟩ (.slice (some ⟨w1.heap.size + 1, 0, none⟩) 1 1) = w2 at *
  have g2 := heap_setCell_same w2 (w.heap.size + 1 + 1) 14 _ 42 (.int .i64 3) g1
  have k2 : (w2.setCell ⟨w.heap.size + 1 + 1, 14, none⟩ (.int .i64 3)).heap[w.heap.size]? = _ := (heap_setCell_other w2 ⟨w.heap.size + 1 + 1, 14, none⟩ w.heap.size (.int .i64 3) (show w.heap.size ≠ w.heap.size + 1 + 1 by omega)).trans k1
  have bb2 : Below w.heap.size w (w2.setCell ⟨w.heap.size + 1 + 1, 14, none⟩ (.int .i64 3)) := bb1.setCell (p := ⟨w.heap.size + 1 + 1, 14, none⟩) (show w.heap.size ≤ w.heap.size + 1 + 1 by omega) _
  have z2 : (w2.setCell ⟨w.heap.size + 1 + 1, 14, none⟩ (.int .i64 3)).heap.size = w2.heap.size := World.size_setCell _ _ _
  generalize w2.setCell ⟨w.heap.size + 1 + 1, 14, none⟩ (.int .i64 3) = w3 at *
  have h3 := heap_alloc_new w3 (.cells #[.slice (some ⟨w.heap.size + 1 + 1, 0, none⟩) 2 2, .int .i64 0] 24)
  have b3 : Below w3.heap.size w3 (w3.alloc (.cells #[.slice (some ⟨w.heap.size + 1 + 1, 0, none⟩) 2 2, .int .i64 0] 24)) := (Below.refl _ _).alloc (Nat.le_refl _) _
  have z3 : (w3.alloc (.cells #[.slice (some ⟨w.heap.size + 1 + 1, 0, none⟩) 2 2, .int .i64 0] 24)).heap.size = w3.heap.size + 1 := World.size_alloc _ _
  generalize w3.alloc (.cells #[.slice (some ⟨w.heap.size + 1 + 1, 0, none⟩) 2 2, .int .i64 0] 24) = w4 at *
  have h4 := heap_alloc_new w4 (.cells #[.string ⟨#[97]⟩, .int .i64 2] 71)
  have b4 : Below w4.heap.size w4 (w4.alloc (.cells #[.string ⟨#[97]⟩, .int .i64 2] 71)) := (Below.refl _ _).alloc (Nat.le_refl _) _
  have z4 : (w4.alloc (.cells #[.string ⟨#[97]⟩, .int .i64 2] 71)).heap.size = w4.heap.size + 1 := World.size_alloc _ _
  generalize w4.alloc (.cells #[.string ⟨#[97]⟩, .int .i64 2] 71) = w5 at *
  have e3 : w3.heap.size = w1.heap.size := by omega
  rw [e3] at h3
  have e4 : w4.heap.size = w1.heap.size + 1 := by omega
  rw [e4] at h4
  refine ⟨(bb2.trans (b3.mono (by omega))).trans (b4.mono (by omega)), (b4.block _ (by omega)).trans ((b3.block _ (by omega)).trans k2), (b4.block _ (by omega)).trans ((b3.block _ (by omega)).trans g2), (b4.block _ (by omega)).trans h3, h4, by omega⟩
/-- what stays while Small appends -/
structure Sk (w W : World) (G T E A : Nat) : Prop where
  below : Below w.heap.size w W
  box : W.heap[w.heap.size]? = some (.cells #[noS, .int .i64 0] 24)
  hT : W.heap[T]? = some (.cells #[.slice (some ⟨G, 0, none⟩) 2 2, .int .i64 0] 24)
  hE : W.heap[E]? = some (.cells #[.string ⟨#[97]⟩, .int .i64 2] 71)
  hA : W.heap[A]? = some (.cells #[.string ⟨#[98]⟩, .int .i64 3] 71)
  hD : W.heap[A + 1]? = some (.cells #[.int .u8 104, .int .u8 101, .int .u8 108, .int .u8 108, .int .u8 111] 5 (5, 6))
  lt : w.heap.size < G ∧ G < T ∧ T < E ∧ E < A
theorem Sk.cells {w W : World} {G T E A : Nat} (h : Sk w W G T E A) : W.cell? ⟨T, 0, none⟩ = some (.slice (some ⟨G, 0, none⟩) 2 2) ∧ W.cell? ⟨T, 1, none⟩ = some (.int .i64 0) ∧ W.frozen? ⟨T, 0, none⟩ = false ∧ W.cell? ⟨w.heap.size, 0, none⟩ = some noS ∧ W.cell? ⟨w.heap.size, 1, none⟩ = some (.int .i64 0) ∧ W.frozen? ⟨w.heap.size, 0, none⟩ = false ∧ W.frozen? ⟨w.heap.size, 1, none⟩ = false ∧ T ≠ w.heap.size := by
  refine ⟨by rw [cell_of_row _ _ _ _ _ _ h.hT]; rfl, by rw [cell_of_row _ _ _ _ _ _ h.hT]; rfl, by simp [World.frozen?, h.hT], by rw [cell_of_row _ _ _ _ _ _ h.box]; rfl, by rw [cell_of_row _ _ _ _ _ _ h.box]; rfl, by simp [World.frozen?, h.box], by simp [World.frozen?, h.box], by have := h.lt; omega⟩
theorem sk_of {w w6 W : World} {G T E : Nat} {o : Obj} (h : Sw w w6 G T E) (hg : (((w6.alloc (.cells #[.string ⟨#[98]⟩, .int .i64 3] 71)).alloc (.cells #[.int .u8 104, .int .u8 101, .int .u8 108, .int .u8 108, .int .u8 111] 5 (5, 6))).alloc o).grownBy W (some G)) : Sk w W G T E w6.heap.size := by
  obtain ⟨l1, l2, l3, l4⟩ := h.lt
  have a1 := heap_alloc_new w6 (.cells #[.string ⟨#[98]⟩, .int .i64 3] 71)
  have b1 : Below w6.heap.size w6 (w6.alloc (.cells #[.string ⟨#[98]⟩, .int .i64 3] 71)) := (Below.refl _ _).alloc (Nat.le_refl _) _
  have z1 : (w6.alloc (.cells #[.string ⟨#[98]⟩, .int .i64 3] 71)).heap.size = w6.heap.size + 1 := World.size_alloc _ _
  generalize w6.alloc (.cells #[.string ⟨#[98]⟩, .int .i64 3] 71) = w7 at *
  have a2 := heap_alloc_new w7 (.cells #[.int .u8 104, .int .u8 101, .int .u8 108, .int .u8 108, .int .u8 111] 5 (5, 6))
  have b2 : Below w7.heap.size w7 (w7.alloc (.cells #[.int .u8 104, .int .u8 101, .int .u8 108, .int .u8 108, .int .u8 111] 5 (5, 6))) := (Below.refl _ _).alloc (Nat.le_refl _) _
  have z2 : (w7.alloc (.cells #[.int .u8 104, .int .u8 101, .int .u8 108, .int .u8 108, .int .u8 111] 5 (5, 6))).heap.size = w7.heap.size + 1 := World.size_alloc _ _
  generalize w7.alloc (.cells #[.int .u8 104, .int .u8 101, .int .u8 108, .int .u8 108, .int .u8 111] 5 (5, 6)) = w8 at *
  have b3 : Below w8.heap.size w8 (w8.alloc o) := (Below.refl _ _).alloc (Nat.le_refl _) _
  have z3 : (w8.alloc o).heap.size = w8.heap.size + 1 := World.size_alloc _ _
  generalize w8.alloc o = w9 at *
  rw [z1] at a2
  have kp : ∀ k, k < w6.heap.size → k ≠ G → W.heap[k]? = w6.heap[k]? := fun k hk hn =>
    (hg.block k (by omega) (by simpa using hn)).trans ((b3.block k (by omega)).trans ((b2.block k (by omega)).trans (b1.block k hk)))
  refine ⟨?_, (kp _ (by omega) (by omega)).trans h.box, (kp _ (by omega) (by omega)).trans h.hT, (kp _ l4 (by omega)).trans h.hE, ?_, ?_, by omega⟩
  · exact (((h.below.trans (b1.mono (by omega))).trans (b2.mono (by omega))).trans (b3.mono (by omega))).grown hg (by omega) (fun k hk => by injection hk with hk; omega)
  · exact (hg.block _ (by omega) (by simp; omega)).trans ((b3.block _ (by omega)).trans ((b2.block _ (by omega)).trans a1))
  · exact (hg.block _ (by omega) (by simp; omega)).trans ((b3.block _ (by omega)).trans a2)
/-- what Small leaves -/
theorem small_end {w w10 : World} {G T E A g2 c2 : Nat} {cur : Array Value} (hb : Below w.heap.size w w10) (hg : w10.heap[g2]? = some (.cells cur 42)) (hle : 4 ≤ c2) (hmx : c2 ≤ maxLen) (hsz : cur.size = c2 * 10)
    (htk : cur.toList.take (4 * 10) = (smA (.slice (some ⟨E, 0, none⟩) 1 1)).toList ++ [.int .u8 2, .int .i64 493, .int .i64 0, .int .i64 0, .int .i64 2, .int .i64 0, noS, noT, .slice (some ⟨A, 0, none⟩) 1 1, .int .i64 1, .int .u8 1, .int .i64 420, .int .i64 0, .int .i64 0, .int .i64 1, .int .i64 0, .slice (some ⟨A + 1, 0, none⟩) 5 5, noT, noS, .int .i64 0])
    (hT : w10.heap[T]? = some (.cells #[.slice (some ⟨G, 0, none⟩) 2 2, .int .i64 0] 24)) (hE : w10.heap[E]? = some (.cells #[.string ⟨#[97]⟩, .int .i64 2] 71)) (hA : w10.heap[A]? = some (.cells #[.string ⟨#[98]⟩, .int .i64 3] 71))
    (hD : w10.heap[A + 1]? = some (.cells #[.int .u8 104, .int .u8 101, .int .u8 108, .int .u8 108, .int .u8 111] 5 (5, 6))) (hg2 : w.heap.size < g2) (hTE : w.heap.size < T ∧ T < E ∧ E < A) :
    Ng (((w10.setCell ⟨T, 0, none⟩ (.slice (some ⟨g2, 0, none⟩) 4 c2)).setCell ⟨w.heap.size, 0, none⟩ (.slice (some ⟨g2, 0, none⟩) 4 c2)).setCell ⟨w.heap.size, 1, none⟩ (.int .i64 0)) (some ⟨g2, 0, none⟩) 4 c2 small ∧
    Below w.heap.size w (((w10.setCell ⟨T, 0, none⟩ (.slice (some ⟨g2, 0, none⟩) 4 c2)).setCell ⟨w.heap.size, 0, none⟩ (.slice (some ⟨g2, 0, none⟩) 4 c2)).setCell ⟨w.heap.size, 1, none⟩ (.int .i64 0)) := by
  have hne : g2 ≠ T := fun e => by
    rw [e, hT] at hg
    injection hg with hg
    injection hg with _ h2 _
    exact absurd h2 (by decide)
  have kp : ∀ k, k ≠ T → k ≠ w.heap.size → (((w10.setCell ⟨T, 0, none⟩ (.slice (some ⟨g2, 0, none⟩) 4 c2)).setCell ⟨w.heap.size, 0, none⟩ (.slice (some ⟨g2, 0, none⟩) 4 c2)).setCell ⟨w.heap.size, 1, none⟩ (.int .i64 0)).heap[k]? = w10.heap[k]? := fun k h1 h2 => by
    rw [heap_setCell_other _ ⟨w.heap.size, 1, none⟩ k _ h2, heap_setCell_other _ ⟨w.heap.size, 0, none⟩ k _ h2, heap_setCell_other _ ⟨T, 0, none⟩ k _ h1]
  have hbf : Below w.heap.size w (((w10.setCell ⟨T, 0, none⟩ (.slice (some ⟨g2, 0, none⟩) 4 c2)).setCell ⟨w.heap.size, 0, none⟩ (.slice (some ⟨g2, 0, none⟩) 4 c2)).setCell ⟨w.heap.size, 1, none⟩ (.int .i64 0)) :=
    ((hb.setCell (p := ⟨T, 0, none⟩) (show w.heap.size ≤ T by omega) _).setCell (p := ⟨w.heap.size, 0, none⟩) (Nat.le_refl _) _).setCell (p := ⟨w.heap.size, 1, none⟩) (Nat.le_refl _) _
  refine ⟨?_, hbf⟩
  generalize (((w10.setCell ⟨T, 0, none⟩ (.slice (some ⟨g2, 0, none⟩) 4 c2)).setCell ⟨w.heap.size, 0, none⟩ (.slice (some ⟨g2, 0, none⟩) 4 c2)).setCell ⟨w.heap.size, 1, none⟩ (.int .i64 0)) = wf at *
  have fg := (kp g2 hne (by omega)).trans hg
  have fE := (kp E (by omega) (by omega)).trans hE
  have fA := (kp A (by omega) (by omega)).trans hA
  have fD := (kp (A + 1) (by omega) (by omega)).trans hD
  have e4 : (cellsOf [(nz, noS, noS), (⟨2, 493, 0, 0, 3, 0, [], ⟨#[]⟩, [⟨⟨#[97]⟩, 2⟩], 1⟩, noS, .slice (some ⟨E, 0, none⟩) 1 1), (⟨2, 493, 0, 0, 2, 0, [], ⟨#[]⟩, [⟨⟨#[98]⟩, 3⟩], 1⟩, noS, .slice (some ⟨A, 0, none⟩) 1 1), (⟨1, 420, 0, 0, 1, 0, [104, 101, 108, 108, 111], ⟨#[]⟩, [], 0⟩, .slice (some ⟨A + 1, 0, none⟩) 5 5, noS)]) = cur.toList.take (4 * 10) := by rw [htk]; rfl
  have hown : wf.ownsRow 0 42 10 (.slice (some ⟨g2, 0, none⟩) 4 c2) 4 (cellsOf [(nz, noS, noS), (⟨2, 493, 0, 0, 3, 0, [], ⟨#[]⟩, [⟨⟨#[97]⟩, 2⟩], 1⟩, noS, .slice (some ⟨E, 0, none⟩) 1 1), (⟨2, 493, 0, 0, 2, 0, [], ⟨#[]⟩, [⟨⟨#[98]⟩, 3⟩], 1⟩, noS, .slice (some ⟨A, 0, none⟩) 1 1), (⟨1, 420, 0, 0, 1, 0, [104, 101, 108, 108, 111], ⟨#[]⟩, [], 0⟩, .slice (some ⟨A + 1, 0, none⟩) 5 5, noS)]) :=
    ⟨rfl, .inr ⟨g2, c2, cur, rfl, Nat.zero_le _, fg, hle, hmx, hsz, e4.symm⟩⟩
  have lt : ∀ {k : Nat} {o : Obj}, wf.heap[k]? = some o → k < wf.heap.size := fun h => (Array.getElem?_eq_some_iff.1 h).1
  obtain ⟨a, cap, hv, hng⟩ := ng_of_own hown (by
    intro x hx
    simp only [List.mem_cons, List.not_mem_nil, or_false] at hx
    rcases hx with rfl | rfl | rfl | rfl
    · exact ⟨none, 0, none, 0, rfl, rfl, by_nil _, eg_nil _⟩
    · refine ⟨none, 0, some ⟨E, 0, none⟩, 1, rfl, rfl, by_nil _, rfl, Nat.le_refl _, (by intro h; cases h), .inr ⟨E, 0, rfl, lt fE, fun i hi => ?_⟩⟩
      obtain rfl : i = 0 := by simp at hi; omega
      exact ⟨by rw [cell_of_row _ _ _ _ _ _ fE]; rfl, by rw [cell_of_row _ _ _ _ _ _ fE]; rfl⟩
    · refine ⟨none, 0, some ⟨A, 0, none⟩, 1, rfl, rfl, by_nil _, rfl, Nat.le_refl _, (by intro h; cases h), .inr ⟨A, 0, rfl, lt fA, fun i hi => ?_⟩⟩
      obtain rfl : i = 0 := by simp at hi; omega
      exact ⟨by rw [cell_of_row _ _ _ _ _ _ fA]; rfl, by rw [cell_of_row _ _ _ _ _ _ fA]; rfl⟩
    · refine ⟨some ⟨A + 1, 0, none⟩, 5, none, 0, rfl, rfl, ⟨rfl, Nat.le_refl _, (by intro h; cases h), .inr ⟨A + 1, 0, rfl, lt fD, fun i hi => ?_⟩⟩, eg_nil _⟩
      rw [cell_of_row _ _ _ _ _ _ fD, Nat.zero_add]
      have h5 : i < 5 := hi
      match i, h5 with
      | 0, _ => rfl
      | 1, _ => rfl
      | 2, _ => rfl
      | 3, _ => rfl
      | 4, _ => rfl)
  injection hv with h1 _ h3
  subst h1 h3
  exact hng
theorem own_some {w : World} {base : Nat} {e : TypeId} {size : Nat} {v : Value} {n : Nat} {xs : List Value} (h : w.ownsRow base e size v n xs) (hn : 0 < n) : ∃ g cap cur, v = .slice (some ⟨g, 0, none⟩) n cap ∧ base ≤ g ∧ w.heap[g]? = some (.cells cur e (0, 0)) ∧ n ≤ cap ∧ cap ≤ maxLen ∧ cur.size = cap * size ∧ cur.toList.take (n * size) = xs := by
  rcases h.2 with ⟨_, h0⟩ | h
  · omega
  · exact h
theorem cv_same (w : World) (o : Obj) : (convert 39 39 (.slice (some ⟨w.heap.size + 1, 0, none⟩) 5 5)).run Try.prog ((w.alloc o).alloc (.cells #[.int .u8 104, .int .u8 101, .int .u8 108, .int .u8 108, .int .u8 111] 5)) = .ok (.slice (some ⟨w.heap.size + 1, 0, none⟩) 5 5) ((w.alloc o).alloc (.cells #[.int .u8 104, .int .u8 101, .int .u8 108, .int .u8 108, .int .u8 111] 5 (5, 6))) := by
  have := Lib.run_convert_bytes_const (P := Try.prog) (w.alloc o) 39 5 #[.int .u8 104, .int .u8 101, .int .u8 108, .int .u8 108, .int .u8 111] 5 5 Try.underlying39 Try.underlying5
  rwa [World.size_alloc] at this
set_option maxRecDepth 100000 in
set_option maxHeartbeats 1000000 in
theorem small_any (w : World) : Calls Try.prog 12 #[] w fun e w' => (∃ a cap, e = .returned (.agg #[.slice a 4 cap, .int .i64 0]) ∧ Ng w' a 4 cap small) ∧ Below w.heap.size w w' := by
  obtain ⟨i1, hi1, hy0, hy1, hy2⟩ := info_parts Try.infoNode
  have HB0 : Hid (∀ W, Below (w.alloc (.cells #[noS, .int .i64 0] 24)).heap.size (w.alloc (.cells #[noS, .int .i64 0] 24)) W → W.heap[w.heap.size]? = some (.cells #[noS, .int .i64 0] 24) ∧ Below w.heap.size w W) := fun W hb => ⟨(box_keep hb).1, (box_keep hb).2.1⟩
  go_enter Try.func12, Try.ntmps12
  go_wp2_with fail
  refine (new_any _).mono ?_
  rintro e w1 ⟨rfl, hG, b1⟩
  rw [World.size_alloc] at hG
  obtain ⟨hbox, hB1⟩ := unhide HB0 w1 b1
  have hS := hide (sw_first hG hbox hB1)
  have hGl : w.heap.size + 1 + 1 < w1.heap.size := (Array.getElem?_eq_some_iff.1 hG).1
  have hc : ∀ j, w1.cell? ⟨w.heap.size + 1 + 1, j, none⟩ = newA[j]? := fun j => cell_of_row _ _ _ _ _ _ hG
  have hf : ∀ j, w1.frozen? ⟨w.heap.size + 1 + 1, j, none⟩ = false := fun j => by simp [World.frozen?, hG]
  rw [World.size_alloc]
  obtain ⟨G, hGe⟩ : ∃ G, G = w.heap.size + 1 + 1 := ⟨_, rfl⟩
  rw [← hGe] at hc hf hS hGl ⊢
  have c18 := hc 18
  have c14 := hc 14
  have f18 := hf 18
  have f14 := hf 14
  simp at c18 c14
  clear b1 hG hc hf hGe hbox hB1 HB0
  obtain ⟨w6, hw6⟩ : ∃ w6, w6 = ((((w1.setCell ⟨G, 18, none⟩ (.slice (some ⟨w1.heap.size + 1, 0, none⟩) 1 1)).setCell ⟨G, 14, none⟩ (.int .i64 3)).alloc (.cells #[.slice (some ⟨G, 0, none⟩) 2 2, .int .i64 0] 24)).alloc (.cells #[.string ⟨#[97]⟩, .int .i64 2] 71)) := ⟨_, rfl⟩
  rw [← hw6] at hS
  go_upto_region 6 with fail
  rw [← hw6]
  clear hw6 c18 c14 f18 f14
  obtain ⟨T, hT⟩ : ∃ T, T = w1.heap.size := ⟨_, rfl⟩
  rw [← hT] at hS ⊢
  obtain ⟨E, hE⟩ : ∃ E, E = T + 1 := ⟨_, rfl⟩
  rw [← hE] at hS
  have cT : w6.cell? ⟨T, 0, none⟩ = some (.slice (some ⟨G, 0, none⟩) 2 2) := by rw [cell_of_row _ _ _ _ _ _ (unhide hS).hT]; rfl
  have hTl : T < w6.heap.size := by have := (unhide hS).lt; omega
  clear hT hGl hE
  have hcv := cv_same
  have hown : Hid ((((w6.alloc (.cells #[.string ⟨#[98]⟩, .int .i64 3] 71)).alloc (.cells #[.int .u8 104, .int .u8 101, .int .u8 108, .int .u8 108,  .int .u8 111] 5 (5, 6))).alloc (.cells #[.int .u8 2, .int .i64 493, .int .i64 0, .int .i64 0, .int .i64 2, .int .i64 0, noS, noT, .slice (some ⟨w6.heap.size, 0, none⟩) 1 1, .int .i64 1, .int .u8 1, .int .i64 420, .int .i64 0, .int .i64 0, .int .i64 1, .int .i64 0, .slice (some ⟨w6.heap.size + 1, 0, none⟩) 5 5, noT, noS, .int .i64 0] 42)).ownsRow (w.heap.size + 1) 42 10 (.slice (some ⟨G, 0, none⟩) 2 2) 2 (smA (.slice (some ⟨E, 0, none⟩) 1 1)).toList) := by
    have h0 : w6.ownsRow (w.heap.size + 1) 42 10 (.slice (some ⟨G, 0, none⟩) 2 2) 2 (smA (.slice (some ⟨E, 0, none⟩) 1 1)).toList :=
      ⟨rfl, .inr ⟨G, 2, _, rfl, by have := (unhide hS).lt; omega, (unhide hS).hG, Nat.le_refl _, by unfold maxLen; omega, rfl, rfl⟩⟩
    exact ((h0.alloc _).alloc _).alloc _
  have hnew : Hid (∀ j u, ([.int .u8 2, .int .i64 493, .int .i64 0, .int .i64 0, .int .i64 2, .int .i64 0, noS, noT, .slice (some ⟨w6.heap.size, 0, none⟩) 1 1, .int .i64 1, .int .u8 1, .int .i64 420, .int .i64 0, .int .i64 0, .int .i64 1, .int .i64 0, .slice (some ⟨w6.heap.size + 1, 0, none⟩) 5 5, noT, noS, .int .i64 0] : List Value)[j]? = some u → (((w6.alloc (.cells #[.string ⟨#[98]⟩, .int .i64 3] 71)).alloc (.cells #[.int .u8 104, .int .u8 101, .int .u8 108, .int .u8 108,  .int .u8 111] 5 (5, 6))).alloc (.cells #[.int .u8 2, .int .i64 493, .int .i64 0, .int .i64 0, .int .i64 2, .int .i64 0, noS, noT, .slice (some ⟨w6.heap.size, 0, none⟩) 1 1, .int .i64 1, .int .u8 1, .int .i64 420, .int .i64 0, .int .i64 0, .int .i64 1, .int .i64 0, .slice (some ⟨w6.heap.size + 1, 0, none⟩) 5 5, noT, noS, .int .i64 0] 42)).cell? ((⟨w6.heap.size + 1 + 1, 0, none⟩ : Addr).add j) = some u) := fun j u hj => by
    have q := heap_alloc_new ((w6.alloc (.cells #[.string ⟨#[98]⟩, .int .i64 3] 71)).alloc (.cells #[.int .u8 104, .int .u8 101, .int .u8 108, .int .u8 108,  .int .u8 111] 5 (5, 6))) (.cells #[.int .u8 2, .int .i64 493, .int .i64 0, .int .i64 0, .int .i64 2, .int .i64 0, noS, noT, .slice (some ⟨w6.heap.size, 0, none⟩) 1 1, .int .i64 1, .int .u8 1, .int .i64 420, .int .i64 0, .int .i64 0, .int .i64 1, .int .i64 0, .slice (some ⟨w6.heap.size + 1, 0, none⟩) 5 5, noT, noS, .int .i64 0] 42)
    rw [World.size_alloc, World.size_alloc] at q
    rw [add_none, cell_of_row _ _ _ _ _ _ q, Nat.zero_add, List.getElem?_toArray]
    exact hj
  have hkp : Hid (∀ W, (((w6.alloc (.cells #[.string ⟨#[98]⟩, .int .i64 3] 71)).alloc (.cells #[.int .u8 104, .int .u8 101, .int .u8 108, .int .u8 108, .int .u8 111] 5 (5, 6))).alloc (.cells #[.int .u8 2, .int .i64 493, .int .i64 0, .int .i64 0, .int .i64 2, .int .i64 0, noS, noT, .slice (some ⟨w6.heap.size, 0, none⟩) 1 1, .int .i64 1, .int .u8 1, .int .i64 420, .int .i64 0, .int .i64 0, .int .i64 1, .int .i64 0, .slice (some ⟨w6.heap.size + 1, 0, none⟩) 5 5, noT, noS, .int .i64 0] 42)).grownBy W (some G) → Sk w W G T E w6.heap.size) := fun W hg => sk_of (unhide hS) hg
  have hone : Hid (∀ u ∈ ([.int .u8 2, .int .i64 493, .int .i64 0, .int .i64 0, .int .i64 2, .int .i64 0, noS, noT, .slice (some ⟨w6.heap.size, 0, none⟩) 1 1, .int .i64 1, .int .u8 1, .int .i64 420, .int .i64 0, .int .i64 0, .int .i64 1, .int .i64 0, .slice (some ⟨w6.heap.size + 1, 0, none⟩) 5 5, noT, noS, .int .i64 0] : List Value), u.oneCell' = true) := by
    intro u hu
    simp only [List.mem_cons, List.not_mem_nil, or_false] at hu
    rcases hu with rfl | rfl | rfl | rfl | rfl | rfl | rfl | rfl | rfl | rfl | rfl | rfl | rfl | rfl | rfl | rfl | rfl | rfl | rfl | rfl <;> rfl
  go_wp2_with (at_builtin; refine wpList_append_own _ rfl _ _ 22 rfl (w.heap.size + 1) 42 i1 _ 10 120 Try.underlying22 hi1 hy0 hy1 hy2 rfl (by decide) _ _ _ rfl (unhide hown) ⟨w6.heap.size + 1 + 1, 0, none⟩ 2 2 [.int .u8 2, .int .i64 493, .int .i64 0, .int .i64 0, .int .i64 2, .int .i64 0, noS, noT, .slice (some ⟨w6.heap.size, 0, none⟩) 1 1, .int .i64 1, .int .u8 1, .int .i64 420, .int .i64 0, .int .i64 0, .int .i64 1, .int .i64 0, .slice (some ⟨w6.heap.size + 1, 0, none⟩) 5 5, noT, noS, .int .i64 0] rfl rfl (unhide hnew) (unhide hone) (by unfold maxLen; omega) (by omega) (by simp; have := (unhide hS).lt; omega) ?_; intro v' w10 hown10 hg10 hnil10; obtain ⟨g2, c2, cur, rfl, q1, q2, q3, q4, q5, q6⟩ := own_some hown10 (by decide); have HF := hide (unhide hkp w10 hg10); obtain ⟨d0, d1, d2, d3, d4, d5, d6, d7⟩ := (unhide HF).cells; clear hown10 hg10 hnil10)
  have hE := small_end (unhide HF).below q2 q3 q4 q5 q6 (unhide HF).hT (unhide HF).hE (unhide HF).hA (unhide HF).hD (by omega) (by have := (unhide HF).lt; omega)
  refine bodyPost_ret (v := .agg #[.slice (some ⟨g2, 0, none⟩) 4 c2, .int .i64 0]) (by simp [results, Try.results12, go_sem, d3, d4]) rfl ⟨⟨_, _, rfl, hE.1⟩, hE.2⟩
end Go.Proofs.Ytbajjbgeohbdjaa.Tr
