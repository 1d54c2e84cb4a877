import Derived.Test.YthmoinagfooncaaGreatDoorPtFind
import Derived.Test.YthmoinagfooncaaGreatDoorTrNew
import Derived.Deep.RegionWith
import Derived.Deep.DeepCutAuto
import Derived.Deep.CutBlock
/- The chapter's tree with two links, and where paths lead in it. -/
namespace Go.Proofs.YthmoinagfooncaaGreatDoor.Pt
open Go.RowKit Go.Proofs.YthmoinagfooncaaGreatDoor.Cu Go.Proofs.YthmoinagfooncaaGreatDoor.Tr Go.Proofs.YthmoinagfooncaaGreatDoor.Pm

/-- what Small leaves in memory -/
structure SmR (w W : World) (g c : Nat) (cur : Array Value) (E A : Nat) : Prop where
  below : Below w.heap.size w W
  hg : W.heap[g]? = some (.cells cur tyNode)
  le : 4 ≤ c
  mx : c ≤ maxLen
  sz : cur.size = c * 10
  tk : cur.toList.take (4 * 10) = (smA (.slice (some ⟨E, 0, none⟩) 1 1)).toList ++ [.int .u8 2, .int .i64 493, .int .i64 0, .int .i64 0, .int .i64 2, .int .i64 0, noS, noT, .slice (some ⟨A, 0, none⟩) 1 1, .int .i64 1, .int .u8 1, .int .i64 420, .int .i64 0, .int .i64 0, .int .i64 1, .int .i64 0, .slice (some ⟨A + 1, 0, none⟩) 5 5, noT, noS, .int .i64 0]
  hE : W.heap[E]? = some (.cells #[.string ⟨#[97]⟩, .int .i64 2] 50)
  hA : W.heap[A]? = some (.cells #[.string ⟨#[98]⟩, .int .i64 3] 50)
  hD : W.heap[A + 1]? = some (.cells #[.int .u8 104, .int .u8 101, .int .u8 108, .int .u8 108, .int .u8 111] 5 (5, 6))
  lt : w.heap.size ≤ g ∧ w.heap.size ≤ E ∧ w.heap.size ≤ A ∧ E < A
theorem smallR_end {w w10 : World} {G T E A g2 c2 : Nat} {cur : Array Value} (hb : Below w.heap.size w w10) (hg : w10.heap[g2]? = some (.cells cur 48)) (hle : 4 ≤ c2) (hmx : c2 ≤ maxLen) (hsz : cur.size = c2 * 10)
    (htk : cur.toList.take (4 * 10) = (smA (.slice (some ⟨E, 0, none⟩) 1 1)).toList ++ [.int .u8 2, .int .i64 493, .int .i64 0, .int .i64 0, .int .i64 2, .int .i64 0, noS, noT, .slice (some ⟨A, 0, none⟩) 1 1, .int .i64 1, .int .u8 1, .int .i64 420, .int .i64 0, .int .i64 0, .int .i64 1, .int .i64 0, .slice (some ⟨A + 1, 0, none⟩) 5 5, noT, noS, .int .i64 0])
    (hT : w10.heap[T]? = some (.cells #[.slice (some ⟨G, 0, none⟩) 2 2, .int .i64 0] 24)) (hE : w10.heap[E]? = some (.cells #[.string ⟨#[97]⟩, .int .i64 2] 50)) (hA : w10.heap[A]? = some (.cells #[.string ⟨#[98]⟩, .int .i64 3] 50))
    (hD : w10.heap[A + 1]? = some (.cells #[.int .u8 104, .int .u8 101, .int .u8 108, .int .u8 108, .int .u8 111] 5 (5, 6))) (hg2 : w.heap.size < g2) (hTE : w.heap.size < T ∧ T < E ∧ E < A) :
    SmR w (((w10.setCell ⟨T, 0, none⟩ (.slice (some ⟨g2, 0, none⟩) 4 c2)).setCell ⟨w.heap.size, 0, none⟩ (.slice (some ⟨g2, 0, none⟩) 4 c2)).setCell ⟨w.heap.size, 1, none⟩ (.int .i64 0)) g2 c2 cur E A := by
  have hne : g2 ≠ T := fun e => by
    rw [e, hT] at hg
    injection hg with hg
    injection hg with _ h2 _
    exact absurd h2 (by decide)
  have kp : ∀ k, k ≠ T → k ≠ w.heap.size → (((w10.setCell ⟨T, 0, none⟩ (.slice (some ⟨g2, 0, none⟩) 4 c2)).setCell ⟨w.heap.size, 0, none⟩ (.slice (some ⟨g2, 0, none⟩) 4 c2)).setCell ⟨w.heap.size, 1, none⟩ (.int .i64 0)).heap[k]? = w10.heap[k]? := fun k h1 h2 => by
    rw [heap_setCell_other _ ⟨w.heap.size, 1, none⟩ k _ h2, heap_setCell_other _ ⟨w.heap.size, 0, none⟩ k _ h2, heap_setCell_other _ ⟨T, 0, none⟩ k _ h1]
  have hbf : Below w.heap.size w (((w10.setCell ⟨T, 0, none⟩ (.slice (some ⟨g2, 0, none⟩) 4 c2)).setCell ⟨w.heap.size, 0, none⟩ (.slice (some ⟨g2, 0, none⟩) 4 c2)).setCell ⟨w.heap.size, 1, none⟩ (.int .i64 0)) :=
    ((hb.setCell (p := ⟨T, 0, none⟩) (show w.heap.size ≤ T by omega) _).setCell (p := ⟨w.heap.size, 0, none⟩) (Nat.le_refl _) _).setCell (p := ⟨w.heap.size, 1, none⟩) (Nat.le_refl _) _
  exact ⟨hbf, (kp g2 hne (by omega)).trans hg, hle, hmx, hsz, htk, (kp E (by omega) (by omega)).trans hE, (kp A (by omega) (by omega)).trans hA, (kp (A + 1) (by omega) (by omega)).trans hD, by omega⟩
set_option maxRecDepth 100000 in
set_option maxHeartbeats 1000000 in
theorem smallR_any (w : World) : Calls Tryz.prog 11 #[] w fun e w' => ∃ g c, e = .returned (.agg #[.slice (some ⟨g, 0, none⟩) 4 c, .int .i64 0]) ∧ ∃ cur E A, SmR w w' g c cur E A := by
  obtain ⟨i1, hi1, hy0, hy1, hy2⟩ := info_parts Tryz.infoNode
  have HB0 : Hid (∀ W, Below (w.alloc (.cells #[noS, .int .i64 0] 24)).heap.size (w.alloc (.cells #[noS, .int .i64 0] 24)) W → W.heap[w.heap.size]? = some (.cells #[noS, .int .i64 0] 24) ∧ Below w.heap.size w W) := fun W hb => ⟨(box_keep hb).1, (box_keep hb).2.1⟩
  go_enter Tryz.func11, Tryz.ntmps11
  go_wp2_with fail
  refine (new_any _).mono ?_
  rintro e w1 ⟨rfl, hG, b1⟩
  rw [World.size_alloc] at hG
  obtain ⟨hbox, hB1⟩ := unhide HB0 w1 b1
  have hS := hide (sw_first hG hbox hB1)
  have hGl : w.heap.size + 1 + 1 < w1.heap.size := (Array.getElem?_eq_some_iff.1 hG).1
  have hc : ∀ j, w1.cell? ⟨w.heap.size + 1 + 1, j, none⟩ = newA[j]? := fun j => cell_of_row _ _ _ _ _ _ hG
  have hf : ∀ j, w1.frozen? ⟨w.heap.size + 1 + 1, j, none⟩ = false := fun j => by simp [World.frozen?, hG]
  rw [World.size_alloc]
  obtain ⟨G, hGe⟩ : ∃ G, G = w.heap.size + 1 + 1 := ⟨_, rfl⟩
  rw [← hGe] at hc hf hS hGl ⊢
  have c18 := hc 18
  have c14 := hc 14
  have f18 := hf 18
  have f14 := hf 14
  simp at c18 c14
  clear b1 hG hc hf hGe hbox hB1 HB0
  obtain ⟨w6, hw6⟩ : ∃ w6, w6 = ((((w1.setCell ⟨G, 18, none⟩ (.slice (some ⟨w1.heap.size + 1, 0, none⟩) 1 1)).setCell ⟨G, 14, none⟩ (.int .i64 3)).alloc (.cells #[.slice (some ⟨G, 0, none⟩) 2 2, .int .i64 0] 24)).alloc (.cells #[.string ⟨#[97]⟩, .int .i64 2] 50)) := ⟨_, rfl⟩
  rw [← hw6] at hS
  go_upto_region 6 with fail
  rw [← hw6]
  clear hw6 c18 c14 f18 f14
  obtain ⟨T, hT⟩ : ∃ T, T = w1.heap.size := ⟨_, rfl⟩
  rw [← hT] at hS ⊢
  obtain ⟨E, hE⟩ : ∃ E, E = T + 1 := ⟨_, rfl⟩
  rw [← hE] at hS
  have cT : w6.cell? ⟨T, 0, none⟩ = some (.slice (some ⟨G, 0, none⟩) 2 2) := by rw [cell_of_row _ _ _ _ _ _ (unhide hS).hT]; rfl
  have hTl : T < w6.heap.size := by have := (unhide hS).lt; omega
  clear hT hGl hE
  have hcv := cv_same
  have hown : Hid ((((w6.alloc (.cells #[.string ⟨#[98]⟩, .int .i64 3] 50)).alloc (.cells #[.int .u8 104, .int .u8 101, .int .u8 108, .int .u8 108,  .int .u8 111] 5 (5, 6))).alloc (.cells #[.int .u8 2, .int .i64 493, .int .i64 0, .int .i64 0, .int .i64 2, .int .i64 0, noS, noT, .slice (some ⟨w6.heap.size, 0, none⟩) 1 1, .int .i64 1, .int .u8 1, .int .i64 420, .int .i64 0, .int .i64 0, .int .i64 1, .int .i64 0, .slice (some ⟨w6.heap.size + 1, 0, none⟩) 5 5, noT, noS, .int .i64 0] 48)).ownsRow (w.heap.size + 1) 48 10 (.slice (some ⟨G, 0, none⟩) 2 2) 2 (smA (.slice (some ⟨E, 0, none⟩) 1 1)).toList) := by
    have h0 : w6.ownsRow (w.heap.size + 1) 48 10 (.slice (some ⟨G, 0, none⟩) 2 2) 2 (smA (.slice (some ⟨E, 0, none⟩) 1 1)).toList :=
      ⟨rfl, .inr ⟨G, 2, _, rfl, by have := (unhide hS).lt; omega, (unhide hS).hG, Nat.le_refl _, by unfold maxLen; omega, rfl, rfl⟩⟩
    exact ((h0.alloc _).alloc _).alloc _
  have hnew : Hid (∀ j u, ([.int .u8 2, .int .i64 493, .int .i64 0, .int .i64 0, .int .i64 2, .int .i64 0, noS, noT, .slice (some ⟨w6.heap.size, 0, none⟩) 1 1, .int .i64 1, .int .u8 1, .int .i64 420, .int .i64 0, .int .i64 0, .int .i64 1, .int .i64 0, .slice (some ⟨w6.heap.size + 1, 0, none⟩) 5 5, noT, noS, .int .i64 0] : List Value)[j]? = some u → (((w6.alloc (.cells #[.string ⟨#[98]⟩, .int .i64 3] 50)).alloc (.cells #[.int .u8 104, .int .u8 101, .int .u8 108, .int .u8 108,  .int .u8 111] 5 (5, 6))).alloc (.cells #[.int .u8 2, .int .i64 493, .int .i64 0, .int .i64 0, .int .i64 2, .int .i64 0, noS, noT, .slice (some ⟨w6.heap.size, 0, none⟩) 1 1, .int .i64 1, .int .u8 1, .int .i64 420, .int .i64 0, .int .i64 0, .int .i64 1, .int .i64 0, .slice (some ⟨w6.heap.size + 1, 0, none⟩) 5 5, noT, noS, .int .i64 0] 48)).cell? ((⟨w6.heap.size + 1 + 1, 0, none⟩ : Addr).add j) = some u) := fun j u hj => by
    have q := heap_alloc_new ((w6.alloc (.cells #[.string ⟨#[98]⟩, .int .i64 3] 50)).alloc (.cells #[.int .u8 104, .int .u8 101, .int .u8 108, .int .u8 108,  .int .u8 111] 5 (5, 6))) (.cells #[.int .u8 2, .int .i64 493, .int .i64 0, .int .i64 0, .int .i64 2, .int .i64 0, noS, noT, .slice (some ⟨w6.heap.size, 0, none⟩) 1 1, .int .i64 1, .int .u8 1, .int .i64 420, .int .i64 0, .int .i64 0, .int .i64 1, .int .i64 0, .slice (some ⟨w6.heap.size + 1, 0, none⟩) 5 5, noT, noS, .int .i64 0] 48)
    rw [World.size_alloc, World.size_alloc] at q
    rw [add_none, cell_of_row _ _ _ _ _ _ q, Nat.zero_add, List.getElem?_toArray]
    exact hj
  have hkp : Hid (∀ W, (((w6.alloc (.cells #[.string ⟨#[98]⟩, .int .i64 3] 50)).alloc (.cells #[.int .u8 104, .int .u8 101, .int .u8 108, .int .u8 108, .int .u8 111] 5 (5, 6))).alloc (.cells #[.int .u8 2, .int .i64 493, .int .i64 0, .int .i64 0, .int .i64 2, .int .i64 0, noS, noT, .slice (some ⟨w6.heap.size, 0, none⟩) 1 1, .int .i64 1, .int .u8 1, .int .i64 420, .int .i64 0, .int .i64 0, .int .i64 1, .int .i64 0, .slice (some ⟨w6.heap.size + 1, 0, none⟩) 5 5, noT, noS, .int .i64 0] 48)).grownBy W (some G) → Sk w W G T E w6.heap.size) := fun W hg => sk_of (unhide hS) hg
  have hone : Hid (∀ u ∈ ([.int .u8 2, .int .i64 493, .int .i64 0, .int .i64 0, .int .i64 2, .int .i64 0, noS, noT, .slice (some ⟨w6.heap.size, 0, none⟩) 1 1, .int .i64 1, .int .u8 1, .int .i64 420, .int .i64 0, .int .i64 0, .int .i64 1, .int .i64 0, .slice (some ⟨w6.heap.size + 1, 0, none⟩) 5 5, noT, noS, .int .i64 0] : List Value), u.oneCell' = true) := by
    intro u hu
    simp only [List.mem_cons, List.not_mem_nil, or_false] at hu
    rcases hu with rfl | rfl | rfl | rfl | rfl | rfl | rfl | rfl | rfl | rfl | rfl | rfl | rfl | rfl | rfl | rfl | rfl | rfl | rfl | rfl <;> rfl
  go_wp2_with (at_builtin; refine wpList_append_own _ rfl _ _ 22 rfl (w.heap.size + 1) 48 i1 _ 10 120 Tryz.underlying22 hi1 hy0 hy1 hy2 rfl (by decide) _ _ _ rfl (unhide hown) ⟨w6.heap.size + 1 + 1, 0, none⟩ 2 2 [.int .u8 2, .int .i64 493, .int .i64 0, .int .i64 0, .int .i64 2, .int .i64 0, noS, noT, .slice (some ⟨w6.heap.size, 0, none⟩) 1 1, .int .i64 1, .int .u8 1, .int .i64 420, .int .i64 0, .int .i64 0, .int .i64 1, .int .i64 0, .slice (some ⟨w6.heap.size + 1, 0, none⟩) 5 5, noT, noS, .int .i64 0] rfl rfl (unhide hnew) (unhide hone) (by unfold maxLen; omega) (by omega) (by simp; have := (unhide hS).lt; omega) ?_; intro v' w10 hown10 hg10 hnil10; obtain ⟨g2, c2, cur, rfl, q1, q2, q3, q4, q5, q6⟩ := own_some hown10 (by decide); have HF := hide (unhide hkp w10 hg10); obtain ⟨d0, d1, d2, d3, d4, d5, d6, d7⟩ := (unhide HF).cells; clear hown10 hg10 hnil10)
  have hE := smallR_end (unhide HF).below q2 q3 q4 q5 q6 (unhide HF).hT (unhide HF).hE (unhide HF).hA (unhide HF).hD (by omega) (by have := (unhide HF).lt; omega)
  refine bodyPost_ret (v := .agg #[.slice (some ⟨g2, 0, none⟩) 4 c2, .int .i64 0]) (by simp [results, Tryz.results11, go_sem, d3, d4]) rfl ⟨g2, c2, rfl, cur, E, w6.heap.size, hE⟩
end Go.Proofs.YthmoinagfooncaaGreatDoor.Pt

/- The chapter's paths. -/
namespace Go.Proofs.YthmoinagfooncaaGreatDoor.Pt
open Go.RowKit Go.Proofs.YthmoinagfooncaaGreatDoor.Cu Go.Proofs.YthmoinagfooncaaGreatDoor.Tr Go.Proofs.YthmoinagfooncaaGreatDoor.Pm

/-- the chapter's tree with two links -/
def smallL : List Nd := [nz, ⟨2, 493, 0, 0, 3, 0, [], ⟨#[]⟩, [⟨⟨#[97]⟩, 2⟩, ⟨⟨#[108]⟩, 4⟩, ⟨⟨#[109]⟩, 5⟩], 1⟩, ⟨2, 493, 0, 0, 2, 0, [], ⟨#[]⟩, [⟨⟨#[98]⟩, 3⟩], 1⟩, ⟨1, 420, 0, 0, 1, 0, [104, 101, 108, 108, 111], ⟨#[]⟩, [], 0⟩, ⟨3, 511, 0, 0, 1, 0, [], ⟨#[97, 47, 98]⟩, [], 0⟩, ⟨3, 511, 0, 0, 1, 0, [], ⟨#[109]⟩, [], 0⟩]
abbrev e1 : Ev := ⟨0, 0, 0, 1⟩
theorem fnd1 : findA 0 smallL e1 ⟨#[97, 47, 47, 46, 47, 98]⟩ false = (⟨2, ⟨#[98]⟩, 3, false⟩, 0) := by kernel_rfl
theorem fnd2 : findA 0 smallL e1 ⟨#[108]⟩ true = (⟨2, ⟨#[98]⟩, 3, false⟩, 0) := by kernel_rfl
theorem fnd3 : findA 0 smallL e1 ⟨#[108]⟩ false = (⟨1, ⟨#[108]⟩, 4, false⟩, 0) := by kernel_rfl
theorem fnd4 : findA 0 smallL e1 ⟨#[109, 47, 120]⟩ false = (pz, 12) := by kernel_rfl
theorem fnd5 : findA 0 smallL e1 ⟨#[97, 47, 98, 47]⟩ false = (pz, 9) := by kernel_rfl
theorem fnd6 : findA 0 smallL e1 ⟨#[97, 47, 46, 46]⟩ false = (⟨1, ⟨#[]⟩, 1, false⟩, 0) := by kernel_rfl
theorem bas1 : tx (baseB (bs ⟨#[47, 97, 47, 98, 47, 47]⟩)) = ⟨#[98]⟩ := by kernel_rfl
theorem dir1 : tx (dirB (bs ⟨#[47, 97, 47, 98, 47, 47]⟩)) = ⟨#[47, 97]⟩ := by kernel_rfl
theorem dir2 : tx (dirB (bs ⟨#[97]⟩)) = ⟨#[46]⟩ := by kernel_rfl
theorem joi1 : tx (joinB (bs ⟨#[47]⟩) (bs ⟨#[97]⟩)) = ⟨#[47, 97]⟩ := by kernel_rfl
theorem smL : Sm smallL := ⟨by decide +kernel, fun i => by
  by_cases hi : i < 6
  · have : ∀ i, i < 6 → (nd smallL i).list.length ≤ 10 := by decide +kernel
    have := this i hi; omega
  · have : nd smallL i = nz := by unfold nd; simp [List.getD, List.getElem?_eq_none (show smallL.length ≤ i by show 6 ≤ i; omega)]
    rw [this]; decide, by decide +kernel, by decide +kernel⟩
theorem Tryz.infoEntry : (Tryz.prog.info? 50).map (fun i => (i.zero, i.size, i.bytes)) = some (some (.agg #[.string ⟨#[]⟩, .int .i64 0]), 2, 24) := by kernel_rfl
theorem step_append_own {P : Program} {ops : Array Oper} {o : Oper} {a : Act} {w : World} {K : Act → World → Prop} {Q : Exit → Act → World → Prop} {E : Prop} (hgd : o.guard = none) (s x : Operand) (t : TypeId)
    (ho : o.op = .call { callee := .builtin .append, args := #[s, x], argTypes := #[t, t] })
    (base : Nat) (e : TypeId) (i : TypeInfo) (z : Value) (size bytes : Nat) (ht : P.underlying t = some (.slice e)) (hi : P.info? e = some i) (hz : i.zero = some z)
    (hsize : i.size = size) (hby : i.bytes = bytes) (hzs : z.cells.size = size) (hsz : 0 < size)
    (v : Value) (n : Nat) (xs : List Value) (hs : a.eval s = v) (hown : w.ownsRow base e size v n xs)
    (ad : Addr) (m c : Nat) (news : List Value) (hx : a.eval x = .slice (some ad) m c) (hl : news.length = m * size) (hnews : ∀ j u, news[j]? = some u → w.cell? (ad.add j) = some u) (h1 : ∀ u ∈ news, u.oneCell' = true)
    (h63 : n + m ≤ maxLen) (hbytes : (n + m) * bytes ≤ 140737488355328) (hbase : base ≤ w.heap.size)
    (h : ∀ v' w', w'.ownsRow base e size v' (n + m) (xs ++ news) → w.grownBy w' v.ownBlock → K (a.put o.dst v') w') :
    if Region.wanted o (yielded ops a.tmps) = true then Oper.wp P o a w K Q else E := by
  have hw : Region.wanted o (yielded ops a.tmps) = true := by simp [Region.wanted, hgd]
  rw [if_pos hw]
  exact wp_append_own w s x t ho base e i z size bytes ht hi hz hsize hby hzs hsz v n xs hs hown ad m c news hx hl hnews h1 h63 hbytes hbase fun v' w' h2 h3 _ => h v' w' h2 h3
theorem lit_new (w : World) (l : List Value) (t : TypeId) : ∀ j u, l[j]? = some u → (w.alloc (.cells l.toArray t)).cell? ((⟨w.heap.size, 0, none⟩ : Addr).add j) = some u := fun j u hj => by
  rw [addN, cell_of_row _ _ _ _ _ _ (heap_alloc_new w _), Nat.zero_add, List.getElem?_toArray]
  exact hj
abbrev ent4 : List Value := [.string ⟨#[108]⟩, .int .i64 4, .string ⟨#[109]⟩, .int .i64 5]
abbrev nw20 : List Value := [.int .u8 3, .int .i64 511, .int .i64 0, .int .i64 0, .int .i64 1, .int .i64 0, noS, .string ⟨#[97, 47, 98]⟩, noS, .int .i64 0, .int .u8 3, .int .i64 511, .int .i64 0, .int .i64 0, .int .i64 1, .int .i64 0, noS, .string ⟨#[109]⟩, noS, .int .i64 0]
theorem one4 : ∀ u ∈ ent4, u.oneCell' = true := by
  intro u hu
  simp only [List.mem_cons, List.not_mem_nil, or_false] at hu
  rcases hu with rfl | rfl | rfl | rfl <;> rfl
theorem one20 : ∀ u ∈ nw20, u.oneCell' = true := by
  intro u hu
  simp only [List.mem_cons, List.not_mem_nil, or_false] at hu
  rcases hu with rfl | rfl | rfl | rfl | rfl | rfl | rfl | rfl | rfl | rfl | rfl | rfl | rfl | rfl | rfl | rfl | rfl | rfl | rfl | rfl <;> rfl
/-- the world behind the first append -/
structure S3 (w W : World) (g c : Nat) (cur : Array Value) (T A : Nat) (v : Value) : Prop where
  below : Below w.heap.size w W
  hg : W.heap[g]? = some (.cells cur tyNode)
  le : 4 ≤ c
  mx : c ≤ maxLen
  sz : cur.size = c * 10
  tk : cur.toList.take (4 * 10) = (smA v).toList ++ [.int .u8 2, .int .i64 493, .int .i64 0, .int .i64 0, .int .i64 2, .int .i64 0, noS, noT, .slice (some ⟨A, 0, none⟩) 1 1, .int .i64 1, .int .u8 1, .int .i64 420, .int .i64 0, .int .i64 0, .int .i64 1, .int .i64 0, .slice (some ⟨A + 1, 0, none⟩) 5 5, noT, noS, .int .i64 0]
  hT : W.heap[T]? = some (.cells #[.slice (some ⟨g, 0, none⟩) 4 c, .int .i64 0] 24)
  hA : W.heap[A]? = some (.cells #[.string ⟨#[98]⟩, .int .i64 3] 50)
  hD : W.heap[A + 1]? = some (.cells #[.int .u8 104, .int .u8 101, .int .u8 108, .int .u8 108, .int .u8 111] 5 (5, 6))
  lt : w.heap.size ≤ g ∧ w.heap.size ≤ T
theorem ty_ne {W : World} {b1 b2 : Nat} {c1 c2 : Array Value} {t1 t2 : TypeId} {m1 m2 : Nat × Nat} (h1 : W.heap[b1]? = some (.cells c1 t1 m1)) (h2 : W.heap[b2]? = some (.cells c2 t2 m2)) (h : t1 ≠ t2) : b1 ≠ b2 := fun e => by
  rw [e, h2] at h1
  injection h1 with h1
  injection h1 with _ h3 _
  exact h h3.symm
theorem s3_of {w w1 W : World} {g c : Nat} {cur : Array Value} {E A : Nat} {o : Obj} (h : SmR w w1 g c cur E A)
    (hgr : ((w1.alloc (.cells #[.slice (some ⟨g, 0, none⟩) 4 c, .int .i64 0] 24)).alloc o).drew.grownBy W (some E)) : S3 w W g c cur w1.heap.size A (.slice (some ⟨E, 0, none⟩) 1 1) := by
  have hgE := ty_ne h.hg h.hE (by decide)
  have hAE : A ≠ E := by have := h.lt; omega
  have lt : ∀ {k : Nat} {o : Obj}, w1.heap[k]? = some o → k < w1.heap.size := fun h => (Array.getElem?_eq_some_iff.1 h).1
  have z1 : (w1.alloc (.cells #[.slice (some ⟨g, 0, none⟩) 4 c, .int .i64 0] 24)).heap.size = w1.heap.size + 1 := World.size_alloc _ _
  have k1 := heap_alloc_new w1 (.cells #[.slice (some ⟨g, 0, none⟩) 4 c, .int .i64 0] 24)
  have b1 : Below w1.heap.size w1 (w1.alloc (.cells #[.slice (some ⟨g, 0, none⟩) 4 c, .int .i64 0] 24)) := (Below.refl _ _).alloc (Nat.le_refl _) _
  generalize w1.alloc (.cells #[.slice (some ⟨g, 0, none⟩) 4 c, .int .i64 0] 24) = w2 at *
  have b2 : Below w2.heap.size w2 (w2.alloc o) := (Below.refl _ _).alloc (Nat.le_refl _) _
  have z2 : (w2.alloc o).heap.size = w2.heap.size + 1 := World.size_alloc _ _
  have b2d : Below w2.heap.size w2 (w2.alloc o).drew := ⟨b2.os, b2.tape, b2.output, b2.size, b2.block⟩
  have z2d : (w2.alloc o).drew.heap.size = w2.heap.size + 1 := z2
  generalize (w2.alloc o).drew = w3 at *
  have hE := lt h.hE
  have kp : ∀ k, k < w1.heap.size → k ≠ E → W.heap[k]? = w1.heap[k]? := fun k hk hn => (hgr.block k (by omega) (by simpa using hn)).trans ((b2d.block k (by omega)).trans (b1.block k hk))
  have hsz := h.below.size
  refine ⟨((h.below.trans (b1.mono (by omega))).trans (b2d.mono (by omega))).grown hgr (by omega) (fun k hk => by injection hk with hk; have := h.lt; omega), (kp g (lt h.hg) hgE).trans h.hg, h.le, h.mx, h.sz, h.tk, ?_, (kp A (lt h.hA) hAE).trans h.hA, (kp (A + 1) (lt h.hD) (by have := h.lt; omega)).trans h.hD, h.lt.1, hsz⟩
  exact (hgr.block _ (by omega) (by simp; omega)).trans ((b2d.block _ (by omega)).trans k1)
theorem S3.cells {w W : World} {g c : Nat} {cur : Array Value} {T A : Nat} {v : Value} (h : S3 w W g c cur T A v) : W.cell? ⟨T, 0, none⟩ = some (.slice (some ⟨g, 0, none⟩) 4 c) ∧ W.cell? ⟨T, 1, none⟩ = some (.int .i64 0) ∧ W.cell? ⟨g, 18, none⟩ = some v ∧ W.frozen? ⟨g, 18, none⟩ = false ∧ W.frozen? ⟨T, 0, none⟩ = false := by
  refine ⟨by rw [cell_of_row _ _ _ _ _ _ h.hT]; rfl, by rw [cell_of_row _ _ _ _ _ _ h.hT]; rfl, ?_, by simp [World.frozen?, h.hg], by simp [World.frozen?, h.hT]⟩
  rw [cell_of_row _ _ _ _ _ _ h.hg]
  have e : (cur.toList.take (4 * 10))[18]? = cur.toList[18]? := List.getElem?_take_of_lt (by omega)
  rw [h.tk] at e
  have e2 : cur[18]? = cur.toList[18]? := by simp
  rw [e2, ← e]; rfl
theorem S3.set {w W : World} {g c : Nat} {cur : Array Value} {T A : Nat} {v : Value} (h : S3 w W g c cur T A v) (v' : Value) : S3 w (W.setCell ⟨g, 18, none⟩ v') g c (cur.setIfInBounds 18 v') T A v' := by
  have hTg := ty_ne h.hT h.hg (by decide)
  have hAg := ty_ne h.hA h.hg (by decide)
  have hDg := ty_ne h.hD h.hg (by decide)
  refine ⟨h.below.setCell (p := ⟨g, 18, none⟩) h.lt.1 _, heap_setCell_same W g 18 _ _ _ h.hg, h.le, h.mx, by rw [Array.size_setIfInBounds]; exact h.sz, ?_, (heap_setCell_other W ⟨g, 18, none⟩ T _ hTg).trans h.hT, (heap_setCell_other W ⟨g, 18, none⟩ A _ hAg).trans h.hA, (heap_setCell_other W ⟨g, 18, none⟩ (A + 1) _ hDg).trans h.hD, h.lt⟩
  rw [Array.toList_setIfInBounds, List.take_set, h.tk]
  rfl
/-- the world behind the second append -/
structure S5 (w W : World) (T : Nat) (a : Option Addr) (cap : Nat) : Prop where
  below : Below w.heap.size w W
  ng : Ng W a 6 cap smallL
  tree : W.heap[T]? = some (.cells #[.slice a 6 cap, .int .i64 0] 24)
theorem S5.step {w W W' : World} {T : Nat} {a : Option Addr} {cap : Nat} (h : S5 w W T a cap) (hb : Below W.heap.size W W') : S5 w W' T a cap :=
  ⟨h.below.trans (hb.mono h.below.size), h.ng.below hb, (hb.block _ (Array.getElem?_eq_some_iff.1 h.tree).1).trans h.tree⟩
theorem S5.cells {w W : World} {T : Nat} {a : Option Addr} {cap : Nat} (h : S5 w W T a cap) : W.cell? ⟨T, 0, none⟩ = some (.slice a 6 cap) ∧ W.cell? ⟨T, 1, none⟩ = some (.int .i64 0) :=
  ⟨by rw [cell_of_row _ _ _ _ _ _ h.tree]; rfl, by rw [cell_of_row _ _ _ _ _ _ h.tree]; rfl⟩
theorem s5_of {w W W5 : World} {g c T A : Nat} {cur : Array Value} {va : Option Addr} {vc : Nat} {v5 : Value} {o : Obj} (h : S3 w W g c cur T A (.slice va 3 vc)) (hl : W.ownsRow w.heap.size 50 2 (.slice va 3 vc) 3 [.string ⟨#[97]⟩, .int .i64 2, .string ⟨#[108]⟩, .int .i64 4, .string ⟨#[109]⟩, .int .i64 5])
    (hgr : (W.alloc o).grownBy W5 (some g)) (hown : W5.ownsRow w.heap.size tyNode 10 v5 6 ((smA (.slice va 3 vc)).toList ++ [.int .u8 2, .int .i64 493, .int .i64 0, .int .i64 0, .int .i64 2, .int .i64 0, noS, noT, .slice (some ⟨A, 0, none⟩) 1 1, .int .i64 1, .int .u8 1, .int .i64 420, .int .i64 0, .int .i64 0, .int .i64 1, .int .i64 0, .slice (some ⟨A + 1, 0, none⟩) 5 5, noT, noS, .int .i64 0] ++ nw20)) :
    ∃ a cap, v5 = .slice a 6 cap ∧ S5 w (W5.setCell ⟨T, 0, none⟩ v5) T a cap := by
  have hTg := ty_ne h.hT h.hg (by decide)
  have hAg := ty_ne h.hA h.hg (by decide)
  have hDg := ty_ne h.hD h.hg (by decide)
  have lt : ∀ {k : Nat} {o : Obj}, W.heap[k]? = some o → k < W.heap.size := fun h => (Array.getElem?_eq_some_iff.1 h).1
  have z1 : (W.alloc o).heap.size = W.heap.size + 1 := World.size_alloc _ _
  have b1 : Below W.heap.size W (W.alloc o) := (Below.refl _ _).alloc (Nat.le_refl _) _
  generalize W.alloc o = W1 at *
  have kp : ∀ k, k < W.heap.size → k ≠ g → W5.heap[k]? = W.heap[k]? := fun k hk hn => (hgr.block k (by omega) (by simpa using hn)).trans (b1.block k hk)
  have hb5 : Below w.heap.size w W5 := (h.below.trans (b1.mono h.below.size)).grown hgr (by have := h.below.size; omega) (fun k hk => by injection hk with hk; have := h.lt.1; omega)
  obtain ⟨g5, c5, cur5, hv5, q1, q2, q3, q4, q5, q6⟩ := own_some hown (by decide)
  subst hv5
  refine ⟨_, _, rfl, ?_⟩
  have hT5 := (kp T (lt h.hT) hTg).trans h.hT
  have hA5 := (kp A (lt h.hA) hAg).trans h.hA
  have hD5 := (kp (A + 1) (lt h.hD) hDg).trans h.hD
  obtain ⟨ge, ce, cure, hve, e1, e2, e3, e4, e5, e6⟩ := own_some hl (by decide)
  injection hve with hva _ hvc
  subst hva hvc
  have hge := (kp ge (lt e2) (ty_ne e2 h.hg (by decide))).trans e2
  have n5 : g5 ≠ T := ty_ne q2 hT5 (by decide)
  have nA : A ≠ T := ty_ne hA5 hT5 (by decide)
  have nD : A + 1 ≠ T := ty_ne hD5 hT5 (by decide)
  have ne : ge ≠ T := ty_ne hge hT5 (by decide)
  have fg := (heap_setCell_other W5 ⟨T, 0, none⟩ g5 (.slice (some ⟨g5, 0, none⟩) 6 c5) n5).trans q2
  have fA := (heap_setCell_other W5 ⟨T, 0, none⟩ A (.slice (some ⟨g5, 0, none⟩) 6 c5) nA).trans hA5
  have fD := (heap_setCell_other W5 ⟨T, 0, none⟩ (A + 1) (.slice (some ⟨g5, 0, none⟩) 6 c5) nD).trans hD5
  have fe := (heap_setCell_other W5 ⟨T, 0, none⟩ ge (.slice (some ⟨g5, 0, none⟩) 6 c5) ne).trans hge
  have fT := heap_setCell_same W5 T 0 _ _ (.slice (some ⟨g5, 0, none⟩) 6 c5) hT5
  have hbf : Below w.heap.size w (W5.setCell ⟨T, 0, none⟩ (.slice (some ⟨g5, 0, none⟩) 6 c5)) := hb5.setCell (p := ⟨T, 0, none⟩) h.lt.2 _
  generalize W5.setCell ⟨T, 0, none⟩ (.slice (some ⟨g5, 0, none⟩) 6 c5) = wf at *
  refine ⟨hbf, ?_, fT⟩
  have e6' : cure.toList.take (3 * 2) = _ := e6
  have hown6 : wf.ownsRow 0 48 10 (.slice (some ⟨g5, 0, none⟩) 6 c5) 6 (cellsOf [(nz, noS, noS), (⟨2, 493, 0, 0, 3, 0, [], ⟨#[]⟩, [⟨⟨#[97]⟩, 2⟩, ⟨⟨#[108]⟩, 4⟩, ⟨⟨#[109]⟩, 5⟩], 1⟩, noS, .slice (some ⟨ge, 0, none⟩) 3 vc), (⟨2, 493, 0, 0, 2, 0, [], ⟨#[]⟩, [⟨⟨#[98]⟩, 3⟩], 1⟩, noS, .slice (some ⟨A, 0, none⟩) 1 1), (⟨1, 420, 0, 0, 1, 0, [104, 101, 108, 108, 111], ⟨#[]⟩, [], 0⟩, .slice (some ⟨A + 1, 0, none⟩) 5 5, noS), (⟨3, 511, 0, 0, 1, 0, [], ⟨#[97, 47, 98]⟩, [], 0⟩, noS, noS), (⟨3, 511, 0, 0, 1, 0, [], ⟨#[109]⟩, [], 0⟩, noS, noS)]) :=
    ⟨rfl, .inr ⟨g5, c5, cur5, rfl, Nat.zero_le _, fg, q3, q4, q5, q6⟩⟩
  have ltf : ∀ {k : Nat} {o : Obj}, wf.heap[k]? = some o → k < wf.heap.size := fun h => (Array.getElem?_eq_some_iff.1 h).1
  have ce6 : ∀ j u, ([.string ⟨#[97]⟩, .int .i64 2, .string ⟨#[108]⟩, .int .i64 4, .string ⟨#[109]⟩, .int .i64 5] : List Value)[j]? = some u → wf.cell? ⟨ge, j, none⟩ = some u := fun j u hj => by
    rw [cell_of_row _ _ _ _ _ _ fe]
    have hj6 : j < 6 := (List.getElem?_eq_some_iff.1 hj).1
    have e : (cure.toList.take (3 * 2))[j]? = cure.toList[j]? := List.getElem?_take_of_lt (by omega)
    rw [e6', hj] at e
    have e2 : cure[j]? = cure.toList[j]? := by simp
    rw [e2, ← e]
  obtain ⟨a, cap, hv, hng⟩ := ng_of_own hown6 (by
    intro x hx
    simp only [List.mem_cons, List.not_mem_nil, or_false] at hx
    rcases hx with rfl | rfl | rfl | rfl | rfl | rfl
    · exact ⟨none, 0, none, 0, rfl, rfl, by_nil _, eg_nil _⟩
    · refine ⟨none, 0, some ⟨ge, 0, none⟩, vc, rfl, rfl, by_nil _, rfl, e3, (by intro h; cases h), .inr ⟨ge, 0, rfl, ltf fe, fun i hi => ?_⟩⟩
      have h3 : i < 3 := hi
      match i, h3 with
      | 0, _ => exact ⟨ce6 0 _ rfl, ce6 1 _ rfl⟩
      | 1, _ => exact ⟨ce6 2 _ rfl, ce6 3 _ rfl⟩
      | 2, _ => exact ⟨ce6 4 _ rfl, ce6 5 _ rfl⟩
    · refine ⟨none, 0, some ⟨A, 0, none⟩, 1, rfl, rfl, by_nil _, rfl, Nat.le_refl _, (by intro h; cases h), .inr ⟨A, 0, rfl, ltf fA, fun i hi => ?_⟩⟩
      obtain rfl : i = 0 := by simp at hi; omega
      exact ⟨by rw [cell_of_row _ _ _ _ _ _ fA]; rfl, by rw [cell_of_row _ _ _ _ _ _ fA]; rfl⟩
    · refine ⟨some ⟨A + 1, 0, none⟩, 5, none, 0, rfl, rfl, ⟨rfl, Nat.le_refl _, (by intro h; cases h), .inr ⟨A + 1, 0, rfl, ltf fD, fun i hi => ?_⟩⟩, eg_nil _⟩
      rw [cell_of_row _ _ _ _ _ _ fD, Nat.zero_add]
      have h5 : i < 5 := hi
      match i, h5 with
      | 0, _ => rfl
      | 1, _ => rfl
      | 2, _ => rfl
      | 3, _ => rfl
      | 4, _ => rfl
    · exact ⟨none, 0, none, 0, rfl, rfl, by_nil _, eg_nil _⟩
    · exact ⟨none, 0, none, 0, rfl, rfl, by_nil _, eg_nil _⟩)
  injection hv with h1 _ h3
  subst h1 h3
  exact hng
end Go.Proofs.YthmoinagfooncaaGreatDoor.Pt

/- The chapter's paths walked. -/
namespace Go.Proofs.YthmoinagfooncaaGreatDoor.Pt
open Go.RowKit Go.Proofs.YthmoinagfooncaaGreatDoor.Cu Go.Proofs.YthmoinagfooncaaGreatDoor.Tr Go.Proofs.YthmoinagfooncaaGreatDoor.Pm

theorem own_shape {w : World} {base : Nat} {e : TypeId} {s : Nat} {v : Value} {n : Nat} {xs : List Value} (h : w.ownsRow base e s v n xs) : ∃ a cap, v = .slice a n cap := by
  rcases h.2 with ⟨rfl, rfl⟩ | ⟨g, cap, cur, rfl, _⟩
  · exact ⟨none, 0, rfl⟩
  · exact ⟨_, _, rfl⟩
theorem smr_cell {w W : World} {g c : Nat} {cur : Array Value} {E A : Nat} (h : SmR w W g c cur E A) : W.cell? ⟨g, 18, none⟩ = some (.slice (some ⟨E, 0, none⟩) 1 1) := by
  rw [cell_of_row _ _ _ _ _ _ h.hg]
  have e : (cur.toList.take (4 * 10))[18]? = cur.toList[18]? := List.getElem?_take_of_lt (by omega)
  rw [h.tk] at e
  have e2 : cur[18]? = cur.toList[18]? := by simp
  rw [e2, ← e]; rfl
theorem smr_own {w W : World} {g c : Nat} {cur : Array Value} {E A : Nat} (h : SmR w W g c cur E A) : W.ownsRow w.heap.size 50 2 (.slice (some ⟨E, 0, none⟩) 1 1) 1 [.string ⟨#[97]⟩, .int .i64 2] :=
  ⟨rfl, .inr ⟨E, 1, _, rfl, h.lt.2.1, h.hE, Nat.le_refl _, by unfold maxLen; omega, rfl, rfl⟩⟩
theorem s3_own {w W : World} {g c : Nat} {cur : Array Value} {T A : Nat} {v : Value} (h : S3 w W g c cur T A v) : W.ownsRow w.heap.size tyNode 10 (.slice (some ⟨g, 0, none⟩) 4 c) 4 ((smA v).toList ++ [.int .u8 2, .int .i64 493, .int .i64 0, .int .i64 0, .int .i64 2, .int .i64 0, noS, noT, .slice (some ⟨A, 0, none⟩) 1 1, .int .i64 1, .int .u8 1, .int .i64 420, .int .i64 0, .int .i64 0, .int .i64 1, .int .i64 0, .slice (some ⟨A + 1, 0, none⟩) 5 5, noT, noS, .int .i64 0]) :=
  ⟨rfl, .inr ⟨g, c, cur, rfl, h.lt.1, h.hg, h.le, h.mx, h.sz, h.tk⟩⟩
theorem set_own {w W : World} {g c : Nat} {cur : Array Value} {T A : Nat} {v v' : Value} {n : Nat} {xs : List Value} (h : S3 w W g c cur T A v) (hl : W.ownsRow w.heap.size 50 2 v' n xs) : (W.setCell ⟨g, 18, none⟩ v').ownsRow w.heap.size 50 2 v' n xs := by
  refine ⟨hl.1, ?_⟩
  rcases hl.2 with h0 | ⟨ge, ce, cure, e0, e1, e2, e3⟩
  · exact .inl h0
  · exact .inr ⟨ge, ce, cure, e0, e1, (heap_setCell_other W ⟨g, 18, none⟩ ge _ (ty_ne e2 h.hg (by decide))).trans e2, e3⟩
theorem place_cells {W : World} {N : Nat} {c0 c1 c2 c3 : Value} (h : W.heap[N]? = some (.cells #[c0, c1, c2, c3] tyPlace)) : W.cell? ⟨N, 0, none⟩ = some c0 ∧ W.cell? ⟨N, 1, none⟩ = some c1 ∧ W.cell? ⟨N, 2, none⟩ = some c2 ∧ W.cell? ⟨N, 3, none⟩ = some c3 := by
  refine ⟨?_, ?_, ?_, ?_⟩ <;> (rw [cell_of_row _ _ _ _ _ _ h]; rfl)
theorem env_cells {W : World} {N : Nat} {c0 c1 c2 c3 : Value} (h : W.heap[N]? = some (.cells #[c0, c1, c2, c3] 26)) : W.cell? ⟨N, 0, none⟩ = some c0 ∧ W.cell? ⟨N, 1, none⟩ = some c1 ∧ W.cell? ⟨N, 2, none⟩ = some c2 ∧ W.cell? ⟨N, 3, none⟩ = some c3 := by
  refine ⟨?_, ?_, ?_, ?_⟩ <;> (rw [cell_of_row _ _ _ _ _ _ h]; rfl)
theorem grow_keep {w W W5 : World} {g c T A : Nat} {cur : Array Value} {v : Value} {o : Obj} (hgr : (W.alloc o).grownBy W5 (some g)) (h : S3 w W g c cur T A v) : W5.cell? ⟨T, 0, none⟩ = some (.slice (some ⟨g, 0, none⟩) 4 c) ∧ W5.frozen? ⟨T, 0, none⟩ = false := by
  have hTg := ty_ne h.hT h.hg (by decide)
  have lt : T < W.heap.size := (Array.getElem?_eq_some_iff.1 h.hT).1
  have b1 : Below W.heap.size W (W.alloc o) := (Below.refl _ _).alloc (Nat.le_refl _) _
  have hT5 := (hgr.block T (by rw [World.size_alloc]; omega) (by simpa using hTg)).trans ((b1.block T lt).trans h.hT)
  exact ⟨by rw [cell_of_row _ _ _ _ _ _ hT5]; rfl, by simp [World.frozen?, hT5]⟩
theorem below_new (w : World) (o : Obj) : Below w.heap.size w (w.alloc o) := (Below.refl _ _).alloc (Nat.le_refl _) _
/-- a block stays -/
theorem keep1 {W W' : World} {b : Nat} {o : Obj} (h : W.heap[b]? = some o) (hb : Below W.heap.size W W') : W'.heap[b]? = some o := (hb.block _ (Array.getElem?_eq_some_iff.1 h).1).trans h
theorem lt1 {W : World} {b : Nat} {o : Obj} (h : W.heap[b]? = some o) : b < W.heap.size := (Array.getElem?_eq_some_iff.1 h).1
set_option maxRecDepth 100000 in
set_option maxHeartbeats 4000000 in
theorem lives_any (w : World) : Calls Tryz.prog 5 #[] w fun e w' => e = .returned (.bool true) ∧ Below w.heap.size w w' := by
  obtain ⟨i0, hi0, hz0, hz1, hz2⟩ := info_parts Tryz.infoEntry
  obtain ⟨i1, hi1, hy0, hy1, hy2⟩ := info_parts Tryz.infoNode
  go_enter Tryz.func5, Tryz.ntmps5
  go_wp2_with fail
  refine (smallR_any _).mono ?_
  rintro e w1 ⟨g, c, rfl, cur, E, A, hS⟩
  have HS := hide hS
  have hgl : g < w1.heap.size := lt1 hS.hg
  have k18 := smr_cell hS
  have HO := hide (smr_own hS)
  have hc4 := hS.le
  have hwl : w.heap.size ≤ w1.heap.size := hS.below.size
  clear hS
  go_upto_region 4 with fail
  go_cut [1] (fun v wx => v = .pointer (some ⟨w1.heap.size, 0, none⟩) ∧ Hid (∃ va vc cur, S3 w wx g c cur w1.heap.size A (.slice va 3 vc) ∧ wx.ownsRow w.heap.size 50 2 (.slice va 3 vc) 3 [.string ⟨#[97]⟩, .int .i64 2, .string ⟨#[108]⟩, .int .i64 4, .string ⟨#[109]⟩, .int .i64 5]))
  case first =>
    go_region_law (refine step_append_own rfl (.tmp 26) (.tmp 29) 44 rfl w.heap.size 50 i0 _ 2 24 Tryz.underlying44 hi0 hz0 hz1 hz2 rfl (by decide) (.slice (some ⟨E, 0, none⟩) 1 1) 1 [.string ⟨#[97]⟩, .int .i64 2] (by simp [Act.eval]) (by exact (((unhide HO).alloc _).alloc _)) ⟨w1.heap.size + 1, 0, none⟩ 2 2 ent4 (by simp [Act.eval]) rfl (by have q := lit_new (w1.alloc (.cells #[.slice (some ⟨g, 0, none⟩) 4 c, .int .i64 0] 24)) ent4 50; rw [World.size_alloc] at q; exact q) one4 (by unfold maxLen; omega) (by omega) (by simp; omega) ?_; intro v1 w2 hown2 hg2; obtain ⟨va, vc, rfl⟩ := own_shape hown2; have H3 := hide (s3_of (unhide HS) (by exact hg2)); have HO2 := hide hown2; obtain ⟨t0, t1, t2, t3, t4⟩ := (unhide H3).cells; clear hown2 hg2)
    all_goals
      have HE : Hid (∃ va' vc' cur, S3 w (w2.setCell ⟨g, 18, none⟩ (.slice va 3 vc)) g c cur w1.heap.size A (.slice va' 3 vc') ∧ (w2.setCell ⟨g, 18, none⟩ (.slice va 3 vc)).ownsRow w.heap.size 50 2 (.slice va' 3 vc') 3 [.string ⟨#[97]⟩, .int .i64 2, .string ⟨#[108]⟩, .int .i64 4, .string ⟨#[109]⟩, .int .i64 5]) := ⟨va, vc, _, (unhide H3).set _, set_own (unhide H3) (unhide HO2)⟩
      clear H3 HO2 HS HO t0 t1 t2 t3 t4 k18
      go_wp2_with fail
      go_meet
      exact ⟨rfl, HE⟩
  case rest =>
    obtain ⟨rfl, HE⟩ := hcut
    obtain ⟨va, vc, cur, hS3, hO3⟩ := unhide HE
    obtain ⟨t0, t1, t2, t3, t4⟩ := hS3.cells
    have H3 := hide hS3
    have HO3 := hide hO3
    have HN := hide (s3_own hS3)
    have hTl : w1.heap.size < wc.heap.size := lt1 hS3.hT
    clear HE HS HO k18 hgl hS3 hO3
    generalize w1.heap.size = T at *
    have hwc : w.heap.size ≤ wc.heap.size := (unhide H3).below.size
    go_upto_region 6 with (at_builtin; refine wpList_append_own _ rfl _ _ 22 rfl w.heap.size 48 i1 _ 10 120 Tryz.underlying22 hi1 hy0 hy1 hy2 rfl (by decide) _ _ _ rfl ((unhide HN).alloc _) ⟨wc.heap.size, 0, none⟩ 2 2 nw20 rfl rfl (lit_new wc nw20 48) one20 (by unfold maxLen; omega) (by omega) (by simp; omega) ?_; intro v5 w5 hown5 hg5 _; obtain ⟨a5, c5, hv5, hS5⟩ := s5_of (unhide H3) (unhide HO3) hg5 hown5; subst hv5; have H5 := hide hS5; have k5 := grow_keep hg5 (unhide H3); have u0 := k5.1; have u1 := k5.2; clear hown5 hg5 hS5 k5)
    obtain ⟨w6, hw6⟩ : ∃ w6, w6 = w5.setCell ⟨T, 0, none⟩ (.slice a5 6 c5) := ⟨_, rfl⟩
    rw [← hw6] at H5 ⊢
    clear hw6 t0 t1 t2 t3 t4 u0 u1 H3 HO3 HN hTl hwc hwl hc4
    have F1 : Hid (∀ W, Ng W a5 6 c5 smallL → Calls Tryz.prog 7 #[.agg #[.slice a5 6 c5, .int .i64 0], .agg #[.int .i64 0, .int .i64 0, .int .i64 0, .int .i64 1], .string ⟨#[97, 47, 47, 46, 47, 98]⟩, .bool false] W fun r w' => r = .returned (.tuple #[.agg #[.int .i64 2, .string ⟨#[98]⟩, .int .i64 3, .bool false], .int .i64 0]) ∧ Below W.heap.size W w') := fun W h => by have q := findP_any a5 6 c5 smallL 0 e1 ⟨#[97, 47, 47, 46, 47, 98]⟩ false W h smL (by decide); rw [fnd1] at q; exact q
    have F2 : Hid (∀ W, Ng W a5 6 c5 smallL → Calls Tryz.prog 7 #[.agg #[.slice a5 6 c5, .int .i64 0], .agg #[.int .i64 0, .int .i64 0, .int .i64 0, .int .i64 1], .string ⟨#[108]⟩, .bool true] W fun r w' => r = .returned (.tuple #[.agg #[.int .i64 2, .string ⟨#[98]⟩, .int .i64 3, .bool false], .int .i64 0]) ∧ Below W.heap.size W w') := fun W h => by have q := findP_any a5 6 c5 smallL 0 e1 ⟨#[108]⟩ true W h smL (by decide); rw [fnd2] at q; exact q
    have F3 : Hid (∀ W, Ng W a5 6 c5 smallL → Calls Tryz.prog 7 #[.agg #[.slice a5 6 c5, .int .i64 0], .agg #[.int .i64 0, .int .i64 0, .int .i64 0, .int .i64 1], .string ⟨#[108]⟩, .bool false] W fun r w' => r = .returned (.tuple #[.agg #[.int .i64 1, .string ⟨#[108]⟩, .int .i64 4, .bool false], .int .i64 0]) ∧ Below W.heap.size W w') := fun W h => by have q := findP_any a5 6 c5 smallL 0 e1 ⟨#[108]⟩ false W h smL (by decide); rw [fnd3] at q; exact q
    have F4 : Hid (∀ W, Ng W a5 6 c5 smallL → Calls Tryz.prog 7 #[.agg #[.slice a5 6 c5, .int .i64 0], .agg #[.int .i64 0, .int .i64 0, .int .i64 0, .int .i64 1], .string ⟨#[109, 47, 120]⟩, .bool false] W fun r w' => r = .returned (.tuple #[.agg zPlace, .int .i64 12]) ∧ Below W.heap.size W w') := fun W h => by have q := findP_any a5 6 c5 smallL 0 e1 ⟨#[109, 47, 120]⟩ false W h smL (by decide); rw [fnd4] at q; exact q
    have F5 : Hid (∀ W, Ng W a5 6 c5 smallL → Calls Tryz.prog 7 #[.agg #[.slice a5 6 c5, .int .i64 0], .agg #[.int .i64 0, .int .i64 0, .int .i64 0, .int .i64 1], .string ⟨#[97, 47, 98, 47]⟩, .bool false] W fun r w' => r = .returned (.tuple #[.agg zPlace, .int .i64 9]) ∧ Below W.heap.size W w') := fun W h => by have q := findP_any a5 6 c5 smallL 0 e1 ⟨#[97, 47, 98, 47]⟩ false W h smL (by decide); rw [fnd5] at q; exact q
    have F6 : Hid (∀ W, Ng W a5 6 c5 smallL → Calls Tryz.prog 7 #[.agg #[.slice a5 6 c5, .int .i64 0], .agg #[.int .i64 0, .int .i64 0, .int .i64 0, .int .i64 1], .string ⟨#[97, 47, 46, 46]⟩, .bool false] W fun r w' => r = .returned (.tuple #[.agg #[.int .i64 1, .string ⟨#[]⟩, .int .i64 1, .bool false], .int .i64 0]) ∧ Below W.heap.size W w') := fun W h => by have q := findP_any a5 6 c5 smallL 0 e1 ⟨#[97, 47, 46, 46]⟩ false W h smL (by decide); rw [fnd6] at q; exact q
    have B1 : Hid (∀ W, Calls Tryz.prog 12 #[.string ⟨#[47, 97, 47, 98, 47, 47]⟩] W fun r w' => r = .returned (.string ⟨#[98]⟩) ∧ w' = W) := fun W => by have q := base_any ⟨#[47, 97, 47, 98, 47, 47]⟩ W (by decide); rw [bas1] at q; exact q
    have B2 : Hid (∀ W, Calls Tryz.prog 13 #[.string ⟨#[47, 97, 47, 98, 47, 47]⟩] W fun r w' => r = .returned (.string ⟨#[47, 97]⟩) ∧ w' = W) := fun W => by have q := dir_any ⟨#[47, 97, 47, 98, 47, 47]⟩ W (by decide); rw [dir1] at q; exact q
    have B3 : Hid (∀ W, Calls Tryz.prog 13 #[.string ⟨#[97]⟩] W fun r w' => r = .returned (.string ⟨#[46]⟩) ∧ w' = W) := fun W => by have q := dir_any ⟨#[97]⟩ W (by decide); rw [dir2] at q; exact q
    have B4 : Hid (∀ W, Calls Tryz.prog 14 #[.string ⟨#[47]⟩, .string ⟨#[97]⟩] W fun r w' => r = .returned (.string ⟨#[47, 97]⟩) ∧ w' = W) := fun W => by have q := join_any ⟨#[47]⟩ ⟨#[97]⟩ W (by decide) (by decide); rw [joi1] at q; exact q
    obtain ⟨t0, t1⟩ := (unhide H5).cells
    have hlT := lt1 (unhide H5).tree
    have Sa0 := hide ((unhide H5).step (below_new w6 (.cells #[.int .i64 0, .int .i64 0, .int .i64 0, .int .i64 1] 26)))
    have Ea0 := hide (heap_alloc_new w6 (.cells #[.int .i64 0, .int .i64 0, .int .i64 0, .int .i64 1] 26))
    clear H5
    go_wp2_with fail
    obtain ⟨N, hN⟩ : ∃ N, N = w6.heap.size := ⟨_, rfl⟩
    rw [← hN] at Ea0
    refine (unhide F1 _ (unhide Sa0).ng).mono ?_
    rintro r x1 ⟨rfl, b1⟩
    rw [← hN]
    have S1 := hide ((unhide Sa0).step b1)
    have E1 := hide (keep1 (unhide Ea0) b1)
    clear F1 b1 Sa0 Ea0 t0 t1 hlT hN
    obtain ⟨t0, t1⟩ := (unhide S1).cells
    have hlT := lt1 (unhide S1).tree
    obtain ⟨n0, n1, n2, n3⟩ := env_cells (unhide E1)
    have hlN := lt1 (unhide E1)
    have Sa1 := hide ((unhide S1).step (below_new x1 (.cells #[.int .i64 2, .string ⟨#[98]⟩, .int .i64 3, .bool false] tyPlace)))
    have Ea1 := hide (keep1 (unhide E1) (below_new x1 (.cells #[.int .i64 2, .string ⟨#[98]⟩, .int .i64 3, .bool false] tyPlace)))
    have Ga1_1 := hide (heap_alloc_new x1 (.cells #[.int .i64 2, .string ⟨#[98]⟩, .int .i64 3, .bool false] tyPlace))
    clear S1 E1
    go_wp2_with fail
    obtain ⟨P1, hP1⟩ : ∃ P, P = x1.heap.size := ⟨_, rfl⟩
    rw [← hP1] at Ga1_1
    refine (unhide F2 _ (unhide Sa1).ng).mono ?_
    rintro r x2 ⟨rfl, b2⟩
    rw [← hP1]
    have S2 := hide ((unhide Sa1).step b2)
    have E2 := hide (keep1 (unhide Ea1) b2)
    have G1_2 := hide (keep1 (unhide Ga1_1) b2)
    clear F2 b2 Sa1 Ea1 t0 t1 hlT hP1 n0 n1 n2 n3 hlN Ga1_1
    obtain ⟨t0, t1⟩ := (unhide S2).cells
    have hlT := lt1 (unhide S2).tree
    obtain ⟨n0, n1, n2, n3⟩ := env_cells (unhide E2)
    have hlN := lt1 (unhide E2)
    have Sa2 := hide ((unhide S2).step (below_new x2 (.cells #[.int .i64 2, .string ⟨#[98]⟩, .int .i64 3, .bool false] tyPlace)))
    have Ea2 := hide (keep1 (unhide E2) (below_new x2 (.cells #[.int .i64 2, .string ⟨#[98]⟩, .int .i64 3, .bool false] tyPlace)))
    have Ga1_2 := hide (keep1 (unhide G1_2) (below_new x2 (.cells #[.int .i64 2, .string ⟨#[98]⟩, .int .i64 3, .bool false] tyPlace)))
    have Ga2_2 := hide (heap_alloc_new x2 (.cells #[.int .i64 2, .string ⟨#[98]⟩, .int .i64 3, .bool false] tyPlace))
    clear S2 E2 G1_2
    go_wp2_with fail
    obtain ⟨P2, hP2⟩ : ∃ P, P = x2.heap.size := ⟨_, rfl⟩
    rw [← hP2] at Ga2_2
    refine (unhide F3 _ (unhide Sa2).ng).mono ?_
    rintro r x3 ⟨rfl, b3⟩
    rw [← hP2]
    have S3 := hide ((unhide Sa2).step b3)
    have E3 := hide (keep1 (unhide Ea2) b3)
    have G1_3 := hide (keep1 (unhide Ga1_2) b3)
    have G2_3 := hide (keep1 (unhide Ga2_2) b3)
    clear F3 b3 Sa2 Ea2 t0 t1 hlT hP2 n0 n1 n2 n3 hlN Ga1_2 Ga2_2
    obtain ⟨t0, t1⟩ := (unhide S3).cells
    have hlT := lt1 (unhide S3).tree
    obtain ⟨n0, n1, n2, n3⟩ := env_cells (unhide E3)
    have hlN := lt1 (unhide E3)
    have Sa3 := hide ((unhide S3).step (below_new x3 (.cells #[.int .i64 1, .string ⟨#[108]⟩, .int .i64 4, .bool false] tyPlace)))
    have Ea3 := hide (keep1 (unhide E3) (below_new x3 (.cells #[.int .i64 1, .string ⟨#[108]⟩, .int .i64 4, .bool false] tyPlace)))
    have Ga1_3 := hide (keep1 (unhide G1_3) (below_new x3 (.cells #[.int .i64 1, .string ⟨#[108]⟩, .int .i64 4, .bool false] tyPlace)))
    have Ga2_3 := hide (keep1 (unhide G2_3) (below_new x3 (.cells #[.int .i64 1, .string ⟨#[108]⟩, .int .i64 4, .bool false] tyPlace)))
    have Ga3_3 := hide (heap_alloc_new x3 (.cells #[.int .i64 1, .string ⟨#[108]⟩, .int .i64 4, .bool false] tyPlace))
    clear S3 E3 G1_3 G2_3
    go_wp2_with fail
    obtain ⟨P3, hP3⟩ : ∃ P, P = x3.heap.size := ⟨_, rfl⟩
    rw [← hP3] at Ga3_3
    refine (unhide F4 _ (unhide Sa3).ng).mono ?_
    rintro r x4 ⟨rfl, b4⟩
    rw [← hP3]
    have S4 := hide ((unhide Sa3).step b4)
    have E4 := hide (keep1 (unhide Ea3) b4)
    have G1_4 := hide (keep1 (unhide Ga1_3) b4)
    have G2_4 := hide (keep1 (unhide Ga2_3) b4)
    have G3_4 := hide (keep1 (unhide Ga3_3) b4)
    clear F4 b4 Sa3 Ea3 t0 t1 hlT hP3 n0 n1 n2 n3 hlN Ga1_3 Ga2_3 Ga3_3
    obtain ⟨t0, t1⟩ := (unhide S4).cells
    have hlT := lt1 (unhide S4).tree
    obtain ⟨n0, n1, n2, n3⟩ := env_cells (unhide E4)
    have hlN := lt1 (unhide E4)
    have Sa4 := hide ((unhide S4).step (below_new x4 (.cells zPlace tyPlace)))
    have Ea4 := hide (keep1 (unhide E4) (below_new x4 (.cells zPlace tyPlace)))
    have Ga1_4 := hide (keep1 (unhide G1_4) (below_new x4 (.cells zPlace tyPlace)))
    have Ga2_4 := hide (keep1 (unhide G2_4) (below_new x4 (.cells zPlace tyPlace)))
    have Ga3_4 := hide (keep1 (unhide G3_4) (below_new x4 (.cells zPlace tyPlace)))
    have Ga4_4 := hide (heap_alloc_new x4 (.cells zPlace tyPlace))
    clear S4 E4 G1_4 G2_4 G3_4
    go_wp2_with fail
    obtain ⟨P4, hP4⟩ : ∃ P, P = x4.heap.size := ⟨_, rfl⟩
    rw [← hP4] at Ga4_4
    refine (unhide F5 _ (unhide Sa4).ng).mono ?_
    rintro r x5 ⟨rfl, b5⟩
    rw [← hP4]
    have S5 := hide ((unhide Sa4).step b5)
    have E5 := hide (keep1 (unhide Ea4) b5)
    have G1_5 := hide (keep1 (unhide Ga1_4) b5)
    have G2_5 := hide (keep1 (unhide Ga2_4) b5)
    have G3_5 := hide (keep1 (unhide Ga3_4) b5)
    have G4_5 := hide (keep1 (unhide Ga4_4) b5)
    clear F5 b5 Sa4 Ea4 t0 t1 hlT hP4 n0 n1 n2 n3 hlN Ga1_4 Ga2_4 Ga3_4 Ga4_4
    obtain ⟨t0, t1⟩ := (unhide S5).cells
    have hlT := lt1 (unhide S5).tree
    obtain ⟨n0, n1, n2, n3⟩ := env_cells (unhide E5)
    have hlN := lt1 (unhide E5)
    have Sa5 := hide ((unhide S5).step (below_new x5 (.cells zPlace tyPlace)))
    have Ea5 := hide (keep1 (unhide E5) (below_new x5 (.cells zPlace tyPlace)))
    have Ga1_5 := hide (keep1 (unhide G1_5) (below_new x5 (.cells zPlace tyPlace)))
    have Ga2_5 := hide (keep1 (unhide G2_5) (below_new x5 (.cells zPlace tyPlace)))
    have Ga3_5 := hide (keep1 (unhide G3_5) (below_new x5 (.cells zPlace tyPlace)))
    have Ga4_5 := hide (keep1 (unhide G4_5) (below_new x5 (.cells zPlace tyPlace)))
    have Ga5_5 := hide (heap_alloc_new x5 (.cells zPlace tyPlace))
    clear S5 E5 G1_5 G2_5 G3_5 G4_5
    go_wp2_with fail
    obtain ⟨P5, hP5⟩ : ∃ P, P = x5.heap.size := ⟨_, rfl⟩
    rw [← hP5] at Ga5_5
    refine (unhide F6 _ (unhide Sa5).ng).mono ?_
    rintro r x6 ⟨rfl, b6⟩
    rw [← hP5]
    have S6 := hide ((unhide Sa5).step b6)
    have E6 := hide (keep1 (unhide Ea5) b6)
    have G1_6 := hide (keep1 (unhide Ga1_5) b6)
    have G2_6 := hide (keep1 (unhide Ga2_5) b6)
    have G3_6 := hide (keep1 (unhide Ga3_5) b6)
    have G4_6 := hide (keep1 (unhide Ga4_5) b6)
    have G5_6 := hide (keep1 (unhide Ga5_5) b6)
    clear F6 b6 Sa5 Ea5 t0 t1 hlT hP5 n0 n1 n2 n3 hlN Ga1_5 Ga2_5 Ga3_5 Ga4_5 Ga5_5
    obtain ⟨t0, t1⟩ := (unhide S6).cells
    have hlT := lt1 (unhide S6).tree
    obtain ⟨n0, n1, n2, n3⟩ := env_cells (unhide E6)
    have hlN := lt1 (unhide E6)
    have Sa6 := hide ((unhide S6).step (below_new x6 (.cells #[.int .i64 1, .string ⟨#[]⟩, .int .i64 1, .bool false] tyPlace)))
    have Ea6 := hide (keep1 (unhide E6) (below_new x6 (.cells #[.int .i64 1, .string ⟨#[]⟩, .int .i64 1, .bool false] tyPlace)))
    have Ga1_6 := hide (keep1 (unhide G1_6) (below_new x6 (.cells #[.int .i64 1, .string ⟨#[]⟩, .int .i64 1, .bool false] tyPlace)))
    have Ga2_6 := hide (keep1 (unhide G2_6) (below_new x6 (.cells #[.int .i64 1, .string ⟨#[]⟩, .int .i64 1, .bool false] tyPlace)))
    have Ga3_6 := hide (keep1 (unhide G3_6) (below_new x6 (.cells #[.int .i64 1, .string ⟨#[]⟩, .int .i64 1, .bool false] tyPlace)))
    have Ga4_6 := hide (keep1 (unhide G4_6) (below_new x6 (.cells #[.int .i64 1, .string ⟨#[]⟩, .int .i64 1, .bool false] tyPlace)))
    have Ga5_6 := hide (keep1 (unhide G5_6) (below_new x6 (.cells #[.int .i64 1, .string ⟨#[]⟩, .int .i64 1, .bool false] tyPlace)))
    have Ga6_6 := hide (heap_alloc_new x6 (.cells #[.int .i64 1, .string ⟨#[]⟩, .int .i64 1, .bool false] tyPlace))
    obtain ⟨p10, p11, p12, p13⟩ := place_cells (unhide G1_6)
    have l1 := lt1 (unhide G1_6)
    obtain ⟨p20, p21, p22, p23⟩ := place_cells (unhide G2_6)
    have l2 := lt1 (unhide G2_6)
    obtain ⟨p30, p31, p32, p33⟩ := place_cells (unhide G3_6)
    have l3 := lt1 (unhide G3_6)
    have HF := hide (unhide Sa6).below
    clear Sa6 Ea6 S6 E6 Ga1_6 Ga2_6 Ga3_6 Ga4_6 Ga5_6 Ga6_6 G1_6 G2_6 G3_6 G4_6 G5_6
    go_wp2_with (first | (go_at_call 12; refine (unhide B1 _).mono ?_; rintro r x7 ⟨rfl, hw⟩; rw [hw]; clear hw x7) | (go_at_call 14; refine (unhide B4 _).mono ?_; rintro r x7 ⟨rfl, hw⟩; rw [hw]; clear hw x7) | (go_at_call 13; first | ((with_reducible refine (unhide B2 _).mono ?_); rintro r x7 ⟨rfl, hw⟩; rw [hw]; clear hw x7) | ((with_reducible refine (unhide B3 _).mono ?_); rintro r x7 ⟨rfl, hw⟩; rw [hw]; clear hw x7)))
    go_ret
    exact ⟨rfl, unhide HF⟩
end Go.Proofs.YthmoinagfooncaaGreatDoor.Pt
