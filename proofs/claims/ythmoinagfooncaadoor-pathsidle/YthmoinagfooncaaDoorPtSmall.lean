/- The chapter's tree with two links, and where paths lead in it. -/
import Derived.Test.YthmoinagfooncaaDoorPtFind
import Derived.Test.YthmoinagfooncaaDoorTrNew
namespace Go.Proofs.YthmoinagfooncaaDoor.Pt
open Go.RowKit Go.Proofs.YthmoinagfooncaaDoor.Cu Go.Proofs.YthmoinagfooncaaDoor.Tr Go.Proofs.YthmoinagfooncaaDoor.Pm

/-- what Small leaves in memory -/
structure SmR (w W : World) (g c : Nat) (cur : Array Value) (E A : Nat) : Prop where
  below : Below w.heap.size w W
  hg : W.heap[g]? = some (.cells cur tyNode)
  le : 4 ≤ c
  mx : c ≤ maxLen
  sz : cur.size = c * 10
  tk : cur.toList.take (4 * 10) = (smA (.slice (some ⟨E, 0, none⟩) 1 1)).toList ++ [.int .u8 2, .int .i64 493, .int .i64 0, .int .i64 0, .int .i64 2, .int .i64 0, noS, noT, .slice (some ⟨A, 0, none⟩) 1 1, .int .i64 1, .int .u8 1, .int .i64 420, .int .i64 0, .int .i64 0, .int .i64 1, .int .i64 0, .slice (some ⟨A + 1, 0, none⟩) 5 5, noT, noS, .int .i64 0]
  hE : W.heap[E]? = some (.cells #[.string ⟨#[97]⟩, .int .i64 2] 52)
  hA : W.heap[A]? = some (.cells #[.string ⟨#[98]⟩, .int .i64 3] 52)
  hD : W.heap[A + 1]? = some (.cells #[.int .u8 104, .int .u8 101, .int .u8 108, .int .u8 108, .int .u8 111] 5 (5, 6))
  lt : w.heap.size ≤ g ∧ w.heap.size ≤ E ∧ w.heap.size ≤ A ∧ E < A
theorem smallR_end {w w10 : World} {G T E A g2 c2 : Nat} {cur : Array Value} (hb : Below w.heap.size w w10) (hg : w10.heap[g2]? = some (.cells cur 38)) (hle : 4 ≤ c2) (hmx : c2 ≤ maxLen) (hsz : cur.size = c2 * 10)
    (htk : cur.toList.take (4 * 10) = (smA (.slice (some ⟨E, 0, none⟩) 1 1)).toList ++ [.int .u8 2, .int .i64 493, .int .i64 0, .int .i64 0, .int .i64 2, .int .i64 0, noS, noT, .slice (some ⟨A, 0, none⟩) 1 1, .int .i64 1, .int .u8 1, .int .i64 420, .int .i64 0, .int .i64 0, .int .i64 1, .int .i64 0, .slice (some ⟨A + 1, 0, none⟩) 5 5, noT, noS, .int .i64 0])
    (hT : w10.heap[T]? = some (.cells #[.slice (some ⟨G, 0, none⟩) 2 2, .int .i64 0] 28)) (hE : w10.heap[E]? = some (.cells #[.string ⟨#[97]⟩, .int .i64 2] 52)) (hA : w10.heap[A]? = some (.cells #[.string ⟨#[98]⟩, .int .i64 3] 52))
    (hD : w10.heap[A + 1]? = some (.cells #[.int .u8 104, .int .u8 101, .int .u8 108, .int .u8 108, .int .u8 111] 5 (5, 6))) (hg2 : w.heap.size < g2) (hTE : w.heap.size < T ∧ T < E ∧ E < A) :
    SmR w (((w10.setCell ⟨T, 0, none⟩ (.slice (some ⟨g2, 0, none⟩) 4 c2)).setCell ⟨w.heap.size, 0, none⟩ (.slice (some ⟨g2, 0, none⟩) 4 c2)).setCell ⟨w.heap.size, 1, none⟩ (.int .i64 0)) g2 c2 cur E A := by
  have hne : g2 ≠ T := fun e => by
    rw [e, hT] at hg
    injection hg with hg
    injection hg with _ h2 _
    exact absurd h2 (by decide)
  have kp : ∀ k, k ≠ T → k ≠ w.heap.size → (((w10.setCell ⟨T, 0, none⟩ (.slice (some ⟨g2, 0, none⟩) 4 c2)).setCell ⟨w.heap.size, 0, none⟩ (.slice (some ⟨g2, 0, none⟩) 4 c2)).setCell ⟨w.heap.size, 1, none⟩ (.int .i64 0)).heap[k]? = w10.heap[k]? := fun k h1 h2 => by
    rw [heap_setCell_other _ ⟨w.heap.size, 1, none⟩ k _ h2, heap_setCell_other _ ⟨w.heap.size, 0, none⟩ k _ h2, heap_setCell_other _ ⟨T, 0, none⟩ k _ h1]
  have hbf : Below w.heap.size w (((w10.setCell ⟨T, 0, none⟩ (.slice (some ⟨g2, 0, none⟩) 4 c2)).setCell ⟨w.heap.size, 0, none⟩ (.slice (some ⟨g2, 0, none⟩) 4 c2)).setCell ⟨w.heap.size, 1, none⟩ (.int .i64 0)) :=
    ((hb.setCell (p := ⟨T, 0, none⟩) (show w.heap.size ≤ T by omega) _).setCell (p := ⟨w.heap.size, 0, none⟩) (Nat.le_refl _) _).setCell (p := ⟨w.heap.size, 1, none⟩) (Nat.le_refl _) _
  exact ⟨hbf, (kp g2 hne (by omega)).trans hg, hle, hmx, hsz, htk, (kp E (by omega) (by omega)).trans hE, (kp A (by omega) (by omega)).trans hA, (kp (A + 1) (by omega) (by omega)).trans hD, by omega⟩
set_option maxRecDepth 100000 in
set_option maxHeartbeats 1000000 in
theorem smallR_any (w : World) : Calls Tryd.prog 18 #[] w fun e w' => ∃ g c, e = .returned (.agg #[.slice (some ⟨g, 0, none⟩) 4 c, .int .i64 0]) ∧ ∃ cur E A, SmR w w' g c cur E A := by
  obtain ⟨i1, hi1, hy0, hy1, hy2⟩ := info_parts Tryd.infoNode
  have HB0 : Hid (∀ W, Below (w.alloc (.cells #[noS, .int .i64 0] 28)).heap.size (w.alloc (.cells #[noS, .int .i64 0] 28)) W → W.heap[w.heap.size]? = some (.cells #[noS, .int .i64 0] 28) ∧ Below w.heap.size w W) := fun W hb => ⟨(box_keep hb).1, (box_keep hb).2.1⟩
  go_enter Tryd.func18, Tryd.ntmps18
  go_wp2_with fail
  refine (new_any _).mono ?_
  rintro e w1 ⟨rfl, hG, b1⟩
  rw [World.size_alloc] at hG
  obtain ⟨hbox, hB1⟩ := unhide HB0 w1 b1
  have hS := hide (sw_first hG hbox hB1)
  have hGl : w.heap.size + 1 + 1 < w1.heap.size := (Array.getElem?_eq_some_iff.1 hG).1
  have hc : ∀ j, w1.cell? ⟨w.heap.size + 1 + 1, j, none⟩ = newA[j]? := fun j => cell_of_row _ _ _ _ _ _ hG
  have hf : ∀ j, w1.frozen? ⟨w.heap.size + 1 + 1, j, none⟩ = false := fun j => by simp [World.frozen?, hG]
  rw [World.size_alloc]
  obtain ⟨G, hGe⟩ : ∃ G, G = w.heap.size + 1 + 1 := ⟨_, rfl⟩
  rw [← hGe] at hc hf hS hGl ⊢
  have c18 := hc 18
  have c14 := hc 14
  have f18 := hf 18
  have f14 := hf 14
  simp at c18 c14
  clear b1 hG hc hf hGe hbox hB1 HB0
  obtain ⟨w6, hw6⟩ : ∃ w6, w6 = ((((w1.setCell ⟨G, 18, none⟩ (.slice (some ⟨w1.heap.size + 1, 0, none⟩) 1 1)).setCell ⟨G, 14, none⟩ (.int .i64 3)).alloc (.cells #[.slice (some ⟨G, 0, none⟩) 2 2, .int .i64 0] 28)).alloc (.cells #[.string ⟨#[97]⟩, .int .i64 2] 52)) := ⟨_, rfl⟩
  rw [← hw6] at hS
  go_upto_region 6 with fail
  rw [← hw6]
  clear hw6 c18 c14 f18 f14
  obtain ⟨T, hT⟩ : ∃ T, T = w1.heap.size := ⟨_, rfl⟩
  rw [← hT] at hS ⊢
  obtain ⟨E, hE⟩ : ∃ E, E = T + 1 := ⟨_, rfl⟩
  rw [← hE] at hS
  have cT : w6.cell? ⟨T, 0, none⟩ = some (.slice (some ⟨G, 0, none⟩) 2 2) := by rw [cell_of_row _ _ _ _ _ _ (unhide hS).hT]; rfl
  have hTl : T < w6.heap.size := by have := (unhide hS).lt; omega
  clear hT hGl hE
  have hcv := cv_same
  have hown : Hid ((((w6.alloc (.cells #[.string ⟨#[98]⟩, .int .i64 3] 52)).alloc (.cells #[.int .u8 104, .int .u8 101, .int .u8 108, .int .u8 108,  .int .u8 111] 5 (5, 6))).alloc (.cells #[.int .u8 2, .int .i64 493, .int .i64 0, .int .i64 0, .int .i64 2, .int .i64 0, noS, noT, .slice (some ⟨w6.heap.size, 0, none⟩) 1 1, .int .i64 1, .int .u8 1, .int .i64 420, .int .i64 0, .int .i64 0, .int .i64 1, .int .i64 0, .slice (some ⟨w6.heap.size + 1, 0, none⟩) 5 5, noT, noS, .int .i64 0] 38)).ownsRow (w.heap.size + 1) 38 10 (.slice (some ⟨G, 0, none⟩) 2 2) 2 (smA (.slice (some ⟨E, 0, none⟩) 1 1)).toList) := by
    have h0 : w6.ownsRow (w.heap.size + 1) 38 10 (.slice (some ⟨G, 0, none⟩) 2 2) 2 (smA (.slice (some ⟨E, 0, none⟩) 1 1)).toList :=
      ⟨rfl, .inr ⟨G, 2, _, rfl, by have := (unhide hS).lt; omega, (unhide hS).hG, Nat.le_refl _, by unfold maxLen; omega, rfl, rfl⟩⟩
    exact ((h0.alloc _).alloc _).alloc _
  have hnew : Hid (∀ j u, ([.int .u8 2, .int .i64 493, .int .i64 0, .int .i64 0, .int .i64 2, .int .i64 0, noS, noT, .slice (some ⟨w6.heap.size, 0, none⟩) 1 1, .int .i64 1, .int .u8 1, .int .i64 420, .int .i64 0, .int .i64 0, .int .i64 1, .int .i64 0, .slice (some ⟨w6.heap.size + 1, 0, none⟩) 5 5, noT, noS, .int .i64 0] : List Value)[j]? = some u → (((w6.alloc (.cells #[.string ⟨#[98]⟩, .int .i64 3] 52)).alloc (.cells #[.int .u8 104, .int .u8 101, .int .u8 108, .int .u8 108,  .int .u8 111] 5 (5, 6))).alloc (.cells #[.int .u8 2, .int .i64 493, .int .i64 0, .int .i64 0, .int .i64 2, .int .i64 0, noS, noT, .slice (some ⟨w6.heap.size, 0, none⟩) 1 1, .int .i64 1, .int .u8 1, .int .i64 420, .int .i64 0, .int .i64 0, .int .i64 1, .int .i64 0, .slice (some ⟨w6.heap.size + 1, 0, none⟩) 5 5, noT, noS, .int .i64 0] 38)).cell? ((⟨w6.heap.size + 1 + 1, 0, none⟩ : Addr).add j) = some u) := fun j u hj => by
    have q := heap_alloc_new ((w6.alloc (.cells #[.string ⟨#[98]⟩, .int .i64 3] 52)).alloc (.cells #[.int .u8 104, .int .u8 101, .int .u8 108, .int .u8 108,  .int .u8 111] 5 (5, 6))) (.cells #[.int .u8 2, .int .i64 493, .int .i64 0, .int .i64 0, .int .i64 2, .int .i64 0, noS, noT, .slice (some ⟨w6.heap.size, 0, none⟩) 1 1, .int .i64 1, .int .u8 1, .int .i64 420, .int .i64 0, .int .i64 0, .int .i64 1, .int .i64 0, .slice (some ⟨w6.heap.size + 1, 0, none⟩) 5 5, noT, noS, .int .i64 0] 38)
    rw [World.size_alloc, World.size_alloc] at q
    rw [add_none, cell_of_row _ _ _ _ _ _ q, Nat.zero_add, List.getElem?_toArray]
    exact hj
  have hkp : Hid (∀ W, (((w6.alloc (.cells #[.string ⟨#[98]⟩, .int .i64 3] 52)).alloc (.cells #[.int .u8 104, .int .u8 101, .int .u8 108, .int .u8 108, .int .u8 111] 5 (5, 6))).alloc (.cells #[.int .u8 2, .int .i64 493, .int .i64 0, .int .i64 0, .int .i64 2, .int .i64 0, noS, noT, .slice (some ⟨w6.heap.size, 0, none⟩) 1 1, .int .i64 1, .int .u8 1, .int .i64 420, .int .i64 0, .int .i64 0, .int .i64 1, .int .i64 0, .slice (some ⟨w6.heap.size + 1, 0, none⟩) 5 5, noT, noS, .int .i64 0] 38)).grownBy W (some G) → Sk w W G T E w6.heap.size) := fun W hg => sk_of (unhide hS) hg
  have hone : Hid (∀ u ∈ ([.int .u8 2, .int .i64 493, .int .i64 0, .int .i64 0, .int .i64 2, .int .i64 0, noS, noT, .slice (some ⟨w6.heap.size, 0, none⟩) 1 1, .int .i64 1, .int .u8 1, .int .i64 420, .int .i64 0, .int .i64 0, .int .i64 1, .int .i64 0, .slice (some ⟨w6.heap.size + 1, 0, none⟩) 5 5, noT, noS, .int .i64 0] : List Value), u.oneCell' = true) := by
    intro u hu
    simp only [List.mem_cons, List.not_mem_nil, or_false] at hu
    rcases hu with rfl | rfl | rfl | rfl | rfl | rfl | rfl | rfl | rfl | rfl | rfl | rfl | rfl | rfl | rfl | rfl | rfl | rfl | rfl | rfl <;> rfl
  go_wp2_with (at_builtin; refine wpList_append_own _ rfl _ _ 26 rfl (w.heap.size + 1) 38 i1 _ 10 120 Tryd.underlying26 hi1 hy0 hy1 hy2 rfl (by decide) _ _ _ rfl (unhide hown) ⟨w6.heap.size + 1 + 1, 0, none⟩ 2 2 [.int .u8 2, .int .i64 493, .int .i64 0, .int .i64 0, .int .i64 2, .int .i64 0, noS, noT, .slice (some ⟨w6.heap.size, 0, none⟩) 1 1, .int .i64 1, .int .u8 1, .int .i64 420, .int .i64 0, .int .i64 0, .int .i64 1, .int .i64 0, .slice (some ⟨w6.heap.size + 1, 0, none⟩) 5 5, noT, noS, .int .i64 0] rfl rfl (unhide hnew) (unhide hone) (by unfold maxLen; omega) (by omega) (by simp; have := (unhide hS).lt; omega) ?_; intro v' w10 hown10 hg10 hnil10; obtain ⟨g2, c2, cur, rfl, q1, q2, q3, q4, q5, q6⟩ := own_some hown10 (by decide); have HF := hide (unhide hkp w10 hg10); obtain ⟨d0, d1, d2, d3, d4, d5, d6, d7⟩ := (unhide HF).cells; clear hown10 hg10 hnil10)
  have hE := smallR_end (unhide HF).below q2 q3 q4 q5 q6 (unhide HF).hT (unhide HF).hE (unhide HF).hA (unhide HF).hD (by omega) (by have := (unhide HF).lt; omega)
  refine bodyPost_ret (v := .agg #[.slice (some ⟨g2, 0, none⟩) 4 c2, .int .i64 0]) (by simp [results, Tryd.results18, go_sem, d3, d4]) rfl ⟨g2, c2, rfl, cur, E, w6.heap.size, hE⟩
end Go.Proofs.YthmoinagfooncaaDoor.Pt
