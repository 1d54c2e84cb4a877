/- The chapter's paths. -/
import Derived.Test.YthmoinagfooncaaDoorPtSmall
import Derived.Deep.RegionWith
namespace Go.Proofs.YthmoinagfooncaaDoor.Pt
open Go.RowKit Go.Proofs.YthmoinagfooncaaDoor.Cu Go.Proofs.YthmoinagfooncaaDoor.Tr Go.Proofs.YthmoinagfooncaaDoor.Pm

/-- the chapter's tree with two links -/
def smallL : List Nd := [nz, ⟨2, 493, 0, 0, 3, 0, [], ⟨#[]⟩, [⟨⟨#[97]⟩, 2⟩, ⟨⟨#[108]⟩, 4⟩, ⟨⟨#[109]⟩, 5⟩], 1⟩, ⟨2, 493, 0, 0, 2, 0, [], ⟨#[]⟩, [⟨⟨#[98]⟩, 3⟩], 1⟩, ⟨1, 420, 0, 0, 1, 0, [104, 101, 108, 108, 111], ⟨#[]⟩, [], 0⟩, ⟨3, 511, 0, 0, 1, 0, [], ⟨#[97, 47, 98]⟩, [], 0⟩, ⟨3, 511, 0, 0, 1, 0, [], ⟨#[109]⟩, [], 0⟩]
abbrev e1 : Ev := ⟨0, 0, 0, 1⟩
theorem fnd1 : findA 0 smallL e1 ⟨#[97, 47, 47, 46, 47, 98]⟩ false = (⟨2, ⟨#[98]⟩, 3, false⟩, 0) := by kernel_rfl
theorem fnd2 : findA 0 smallL e1 ⟨#[108]⟩ true = (⟨2, ⟨#[98]⟩, 3, false⟩, 0) := by kernel_rfl
theorem fnd3 : findA 0 smallL e1 ⟨#[108]⟩ false = (⟨1, ⟨#[108]⟩, 4, false⟩, 0) := by kernel_rfl
theorem fnd4 : findA 0 smallL e1 ⟨#[109, 47, 120]⟩ false = (pz, 12) := by kernel_rfl
theorem fnd5 : findA 0 smallL e1 ⟨#[97, 47, 98, 47]⟩ false = (pz, 9) := by kernel_rfl
theorem fnd6 : findA 0 smallL e1 ⟨#[97, 47, 46, 46]⟩ false = (⟨1, ⟨#[]⟩, 1, false⟩, 0) := by kernel_rfl
theorem bas1 : tx (baseB (bs ⟨#[47, 97, 47, 98, 47, 47]⟩)) = ⟨#[98]⟩ := by kernel_rfl
theorem dir1 : tx (dirB (bs ⟨#[47, 97, 47, 98, 47, 47]⟩)) = ⟨#[47, 97]⟩ := by kernel_rfl
theorem dir2 : tx (dirB (bs ⟨#[97]⟩)) = ⟨#[46]⟩ := by kernel_rfl
theorem joi1 : tx (joinB (bs ⟨#[47]⟩) (bs ⟨#[97]⟩)) = ⟨#[47, 97]⟩ := by kernel_rfl
theorem smL : Sm smallL := ⟨by decide +kernel, fun i => by
  by_cases hi : i < 6
  · have : ∀ i, i < 6 → (nd smallL i).list.length ≤ 10 := by decide +kernel
    have := this i hi; omega
  · have : nd smallL i = nz := by unfold nd; simp [List.getD, List.getElem?_eq_none (show smallL.length ≤ i by show 6 ≤ i; omega)]
    rw [this]; decide, by decide +kernel, by decide +kernel⟩
theorem Tryd.infoEntry : (Tryd.prog.info? 52).map (fun i => (i.zero, i.size, i.bytes)) = some (some (.agg #[.string ⟨#[]⟩, .int .i64 0]), 2, 24) := by kernel_rfl
theorem step_append_own {P : Program} {ops : Array Oper} {o : Oper} {a : Act} {w : World} {K : Act → World → Prop} {Q : Exit → Act → World → Prop} {E : Prop} (hgd : o.guard = none) (s x : Operand) (t : TypeId)
    (ho : o.op = .call { callee := .builtin .append, args := #[s, x], argTypes := #[t, t] })
    (base : Nat) (e : TypeId) (i : TypeInfo) (z : Value) (size bytes : Nat) (ht : P.underlying t = some (.slice e)) (hi : P.info? e = some i) (hz : i.zero = some z)
    (hsize : i.size = size) (hby : i.bytes = bytes) (hzs : z.cells.size = size) (hsz : 0 < size)
    (v : Value) (n : Nat) (xs : List Value) (hs : a.eval s = v) (hown : w.ownsRow base e size v n xs)
    (ad : Addr) (m c : Nat) (news : List Value) (hx : a.eval x = .slice (some ad) m c) (hl : news.length = m * size) (hnews : ∀ j u, news[j]? = some u → w.cell? (ad.add j) = some u) (h1 : ∀ u ∈ news, u.oneCell' = true)
    (h63 : n + m ≤ maxLen) (hbytes : (n + m) * bytes ≤ 140737488355328) (hbase : base ≤ w.heap.size)
    (h : ∀ v' w', w'.ownsRow base e size v' (n + m) (xs ++ news) → w.grownBy w' v.ownBlock → K (a.put o.dst v') w') :
    if Region.wanted o (yielded ops a.tmps) = true then Oper.wp P o a w K Q else E := by
  have hw : Region.wanted o (yielded ops a.tmps) = true := by simp [Region.wanted, hgd]
  rw [if_pos hw]
  exact wp_append_own w s x t ho base e i z size bytes ht hi hz hsize hby hzs hsz v n xs hs hown ad m c news hx hl hnews h1 h63 hbytes hbase fun v' w' h2 h3 _ => h v' w' h2 h3
theorem lit_new (w : World) (l : List Value) (t : TypeId) : ∀ j u, l[j]? = some u → (w.alloc (.cells l.toArray t)).cell? ((⟨w.heap.size, 0, none⟩ : Addr).add j) = some u := fun j u hj => by
  rw [addN, cell_of_row _ _ _ _ _ _ (heap_alloc_new w _), Nat.zero_add, List.getElem?_toArray]
  exact hj
abbrev ent4 : List Value := [.string ⟨#[108]⟩, .int .i64 4, .string ⟨#[109]⟩, .int .i64 5]
abbrev nw20 : List Value := [.int .u8 3, .int .i64 511, .int .i64 0, .int .i64 0, .int .i64 1, .int .i64 0, noS, .string ⟨#[97, 47, 98]⟩, noS, .int .i64 0, .int .u8 3, .int .i64 511, .int .i64 0, .int .i64 0, .int .i64 1, .int .i64 0, noS, .string ⟨#[109]⟩, noS, .int .i64 0]
theorem one4 : ∀ u ∈ ent4, u.oneCell' = true := by
  intro u hu
  simp only [List.mem_cons, List.not_mem_nil, or_false] at hu
  rcases hu with rfl | rfl | rfl | rfl <;> rfl
theorem one20 : ∀ u ∈ nw20, u.oneCell' = true := by
  intro u hu
  simp only [List.mem_cons, List.not_mem_nil, or_false] at hu
  rcases hu with rfl | rfl | rfl | rfl | rfl | rfl | rfl | rfl | rfl | rfl | rfl | rfl | rfl | rfl | rfl | rfl | rfl | rfl | rfl | rfl <;> rfl
/-- the world behind the first append -/
structure S3 (w W : World) (g c : Nat) (cur : Array Value) (T A : Nat) (v : Value) : Prop where
  below : Below w.heap.size w W
  hg : W.heap[g]? = some (.cells cur tyNode)
  le : 4 ≤ c
  mx : c ≤ maxLen
  sz : cur.size = c * 10
  tk : cur.toList.take (4 * 10) = (smA v).toList ++ [.int .u8 2, .int .i64 493, .int .i64 0, .int .i64 0, .int .i64 2, .int .i64 0, noS, noT, .slice (some ⟨A, 0, none⟩) 1 1, .int .i64 1, .int .u8 1, .int .i64 420, .int .i64 0, .int .i64 0, .int .i64 1, .int .i64 0, .slice (some ⟨A + 1, 0, none⟩) 5 5, noT, noS, .int .i64 0]
  hT : W.heap[T]? = some (.cells #[.slice (some ⟨g, 0, none⟩) 4 c, .int .i64 0] 28)
  hA : W.heap[A]? = some (.cells #[.string ⟨#[98]⟩, .int .i64 3] 52)
  hD : W.heap[A + 1]? = some (.cells #[.int .u8 104, .int .u8 101, .int .u8 108, .int .u8 108, .int .u8 111] 5 (5, 6))
  lt : w.heap.size ≤ g ∧ w.heap.size ≤ T
theorem ty_ne {W : World} {b1 b2 : Nat} {c1 c2 : Array Value} {t1 t2 : TypeId} {m1 m2 : Nat × Nat} (h1 : W.heap[b1]? = some (.cells c1 t1 m1)) (h2 : W.heap[b2]? = some (.cells c2 t2 m2)) (h : t1 ≠ t2) : b1 ≠ b2 := fun e => by
  rw [e, h2] at h1
  injection h1 with h1
  injection h1 with _ h3 _
  exact h h3.symm
theorem s3_of {w w1 W : World} {g c : Nat} {cur : Array Value} {E A : Nat} {o : Obj} (h : SmR w w1 g c cur E A)
    (hgr : ((w1.alloc (.cells #[.slice (some ⟨g, 0, none⟩) 4 c, .int .i64 0] 28)).alloc o).drew.grownBy W (some E)) : S3 w W g c cur w1.heap.size A (.slice (some ⟨E, 0, none⟩) 1 1) := by
  have hgE := ty_ne h.hg h.hE (by decide)
  have hAE : A ≠ E := by have := h.lt; omega
  have lt : ∀ {k : Nat} {o : Obj}, w1.heap[k]? = some o → k < w1.heap.size := fun h => (Array.getElem?_eq_some_iff.1 h).1
  have z1 : (w1.alloc (.cells #[.slice (some ⟨g, 0, none⟩) 4 c, .int .i64 0] 28)).heap.size = w1.heap.size + 1 := World.size_alloc _ _
  have k1 := heap_alloc_new w1 (.cells #[.slice (some ⟨g, 0, none⟩) 4 c, .int .i64 0] 28)
  have b1 : Below w1.heap.size w1 (w1.alloc (.cells #[.slice (some ⟨g, 0, none⟩) 4 c, .int .i64 0] 28)) := (Below.refl _ _).alloc (Nat.le_refl _) _
  generalize w1.alloc (.cells #[.slice (some ⟨g, 0, none⟩) 4 c, .int .i64 0] 28) = w2 at *
  have b2 : Below w2.heap.size w2 (w2.alloc o) := (Below.refl _ _).alloc (Nat.le_refl _) _
  have z2 : (w2.alloc o).heap.size = w2.heap.size + 1 := World.size_alloc _ _
  have b2d : Below w2.heap.size w2 (w2.alloc o).drew := ⟨b2.os, b2.tape, b2.output, b2.size, b2.block⟩
  have z2d : (w2.alloc o).drew.heap.size = w2.heap.size + 1 := z2
  generalize (w2.alloc o).drew = w3 at *
  have hE := lt h.hE
  have kp : ∀ k, k < w1.heap.size → k ≠ E → W.heap[k]? = w1.heap[k]? := fun k hk hn => (hgr.block k (by omega) (by simpa using hn)).trans ((b2d.block k (by omega)).trans (b1.block k hk))
  have hsz := h.below.size
  refine ⟨((h.below.trans (b1.mono (by omega))).trans (b2d.mono (by omega))).grown hgr (by omega) (fun k hk => by injection hk with hk; have := h.lt; omega), (kp g (lt h.hg) hgE).trans h.hg, h.le, h.mx, h.sz, h.tk, ?_, (kp A (lt h.hA) hAE).trans h.hA, (kp (A + 1) (lt h.hD) (by have := h.lt; omega)).trans h.hD, h.lt.1, hsz⟩
  exact (hgr.block _ (by omega) (by simp; omega)).trans ((b2d.block _ (by omega)).trans k1)
theorem S3.cells {w W : World} {g c : Nat} {cur : Array Value} {T A : Nat} {v : Value} (h : S3 w W g c cur T A v) : W.cell? ⟨T, 0, none⟩ = some (.slice (some ⟨g, 0, none⟩) 4 c) ∧ W.cell? ⟨T, 1, none⟩ = some (.int .i64 0) ∧ W.cell? ⟨g, 18, none⟩ = some v ∧ W.frozen? ⟨g, 18, none⟩ = false ∧ W.frozen? ⟨T, 0, none⟩ = false := by
  refine ⟨by rw [cell_of_row _ _ _ _ _ _ h.hT]; rfl, by rw [cell_of_row _ _ _ _ _ _ h.hT]; rfl, ?_, by simp [World.frozen?, h.hg], by simp [World.frozen?, h.hT]⟩
  rw [cell_of_row _ _ _ _ _ _ h.hg]
  have e : (cur.toList.take (4 * 10))[18]? = cur.toList[18]? := List.getElem?_take_of_lt (by omega)
  rw [h.tk] at e
  have e2 : cur[18]? = cur.toList[18]? := by simp
  rw [e2, ← e]; rfl
theorem S3.set {w W : World} {g c : Nat} {cur : Array Value} {T A : Nat} {v : Value} (h : S3 w W g c cur T A v) (v' : Value) : S3 w (W.setCell ⟨g, 18, none⟩ v') g c (cur.setIfInBounds 18 v') T A v' := by
  have hTg := ty_ne h.hT h.hg (by decide)
  have hAg := ty_ne h.hA h.hg (by decide)
  have hDg := ty_ne h.hD h.hg (by decide)
  refine ⟨h.below.setCell (p := ⟨g, 18, none⟩) h.lt.1 _, heap_setCell_same W g 18 _ _ _ h.hg, h.le, h.mx, by rw [Array.size_setIfInBounds]; exact h.sz, ?_, (heap_setCell_other W ⟨g, 18, none⟩ T _ hTg).trans h.hT, (heap_setCell_other W ⟨g, 18, none⟩ A _ hAg).trans h.hA, (heap_setCell_other W ⟨g, 18, none⟩ (A + 1) _ hDg).trans h.hD, h.lt⟩
  rw [Array.toList_setIfInBounds, List.take_set, h.tk]
  rfl
/-- the world behind the second append -/
structure S5 (w W : World) (T : Nat) (a : Option Addr) (cap : Nat) : Prop where
  below : Below w.heap.size w W
  ng : Ng W a 6 cap smallL
  tree : W.heap[T]? = some (.cells #[.slice a 6 cap, .int .i64 0] 28)
theorem S5.step {w W W' : World} {T : Nat} {a : Option Addr} {cap : Nat} (h : S5 w W T a cap) (hb : Below W.heap.size W W') : S5 w W' T a cap :=
  ⟨h.below.trans (hb.mono h.below.size), h.ng.below hb, (hb.block _ (Array.getElem?_eq_some_iff.1 h.tree).1).trans h.tree⟩
theorem S5.cells {w W : World} {T : Nat} {a : Option Addr} {cap : Nat} (h : S5 w W T a cap) : W.cell? ⟨T, 0, none⟩ = some (.slice a 6 cap) ∧ W.cell? ⟨T, 1, none⟩ = some (.int .i64 0) :=
  ⟨by rw [cell_of_row _ _ _ _ _ _ h.tree]; rfl, by rw [cell_of_row _ _ _ _ _ _ h.tree]; rfl⟩
theorem s5_of {w W W5 : World} {g c T A : Nat} {cur : Array Value} {va : Option Addr} {vc : Nat} {v5 : Value} {o : Obj} (h : S3 w W g c cur T A (.slice va 3 vc)) (hl : W.ownsRow w.heap.size 52 2 (.slice va 3 vc) 3 [.string ⟨#[97]⟩, .int .i64 2, .string ⟨#[108]⟩, .int .i64 4, .string ⟨#[109]⟩, .int .i64 5])
    (hgr : (W.alloc o).grownBy W5 (some g)) (hown : W5.ownsRow w.heap.size tyNode 10 v5 6 ((smA (.slice va 3 vc)).toList ++ [.int .u8 2, .int .i64 493, .int .i64 0, .int .i64 0, .int .i64 2, .int .i64 0, noS, noT, .slice (some ⟨A, 0, none⟩) 1 1, .int .i64 1, .int .u8 1, .int .i64 420, .int .i64 0, .int .i64 0, .int .i64 1, .int .i64 0, .slice (some ⟨A + 1, 0, none⟩) 5 5, noT, noS, .int .i64 0] ++ nw20)) :
    ∃ a cap, v5 = .slice a 6 cap ∧ S5 w (W5.setCell ⟨T, 0, none⟩ v5) T a cap := by
  have hTg := ty_ne h.hT h.hg (by decide)
  have hAg := ty_ne h.hA h.hg (by decide)
  have hDg := ty_ne h.hD h.hg (by decide)
  have lt : ∀ {k : Nat} {o : Obj}, W.heap[k]? = some o → k < W.heap.size := fun h => (Array.getElem?_eq_some_iff.1 h).1
  have z1 : (W.alloc o).heap.size = W.heap.size + 1 := World.size_alloc _ _
  have b1 : Below W.heap.size W (W.alloc o) := (Below.refl _ _).alloc (Nat.le_refl _) _
  generalize W.alloc o = W1 at *
  have kp : ∀ k, k < W.heap.size → k ≠ g → W5.heap[k]? = W.heap[k]? := fun k hk hn => (hgr.block k (by omega) (by simpa using hn)).trans (b1.block k hk)
  have hb5 : Below w.heap.size w W5 := (h.below.trans (b1.mono h.below.size)).grown hgr (by have := h.below.size; omega) (fun k hk => by injection hk with hk; have := h.lt.1; omega)
  obtain ⟨g5, c5, cur5, hv5, q1, q2, q3, q4, q5, q6⟩ := own_some hown (by decide)
  subst hv5
  refine ⟨_, _, rfl, ?_⟩
  have hT5 := (kp T (lt h.hT) hTg).trans h.hT
  have hA5 := (kp A (lt h.hA) hAg).trans h.hA
  have hD5 := (kp (A + 1) (lt h.hD) hDg).trans h.hD
  obtain ⟨ge, ce, cure, hve, e1, e2, e3, e4, e5, e6⟩ := own_some hl (by decide)
  injection hve with hva _ hvc
  subst hva hvc
  have hge := (kp ge (lt e2) (ty_ne e2 h.hg (by decide))).trans e2
  have n5 : g5 ≠ T := ty_ne q2 hT5 (by decide)
  have nA : A ≠ T := ty_ne hA5 hT5 (by decide)
  have nD : A + 1 ≠ T := ty_ne hD5 hT5 (by decide)
  have ne : ge ≠ T := ty_ne hge hT5 (by decide)
  have fg := (heap_setCell_other W5 ⟨T, 0, none⟩ g5 (.slice (some ⟨g5, 0, none⟩) 6 c5) n5).trans q2
  have fA := (heap_setCell_other W5 ⟨T, 0, none⟩ A (.slice (some ⟨g5, 0, none⟩) 6 c5) nA).trans hA5
  have fD := (heap_setCell_other W5 ⟨T, 0, none⟩ (A + 1) (.slice (some ⟨g5, 0, none⟩) 6 c5) nD).trans hD5
  have fe := (heap_setCell_other W5 ⟨T, 0, none⟩ ge (.slice (some ⟨g5, 0, none⟩) 6 c5) ne).trans hge
  have fT := heap_setCell_same W5 T 0 _ _ (.slice (some ⟨g5, 0, none⟩) 6 c5) hT5
  have hbf : Below w.heap.size w (W5.setCell ⟨T, 0, none⟩ (.slice (some ⟨g5, 0, none⟩) 6 c5)) := hb5.setCell (p := ⟨T, 0, none⟩) h.lt.2 _
  generalize W5.setCell ⟨T, 0, none⟩ (.slice (some ⟨g5, 0, none⟩) 6 c5) = wf at *
  refine ⟨hbf, ?_, fT⟩
  have e6' : cure.toList.take (3 * 2) = _ := e6
  have hown6 : wf.ownsRow 0 38 10 (.slice (some ⟨g5, 0, none⟩) 6 c5) 6 (cellsOf [(nz, noS, noS), (⟨2, 493, 0, 0, 3, 0, [], ⟨#[]⟩, [⟨⟨#[97]⟩, 2⟩, ⟨⟨#[108]⟩, 4⟩, ⟨⟨#[109]⟩, 5⟩], 1⟩, noS, .slice (some ⟨ge, 0, none⟩) 3 vc), (⟨2, 493, 0, 0, 2, 0, [], ⟨#[]⟩, [⟨⟨#[98]⟩, 3⟩], 1⟩, noS, .slice (some ⟨A, 0, none⟩) 1 1), (⟨1, 420, 0, 0, 1, 0, [104, 101, 108, 108, 111], ⟨#[]⟩, [], 0⟩, .slice (some ⟨A + 1, 0, none⟩) 5 5, noS), (⟨3, 511, 0, 0, 1, 0, [], ⟨#[97, 47, 98]⟩, [], 0⟩, noS, noS), (⟨3, 511, 0, 0, 1, 0, [], ⟨#[109]⟩, [], 0⟩, noS, noS)]) :=
    ⟨rfl, .inr ⟨g5, c5, cur5, rfl, Nat.zero_le _, fg, q3, q4, q5, q6⟩⟩
  have ltf : ∀ {k : Nat} {o : Obj}, wf.heap[k]? = some o → k < wf.heap.size := fun h => (Array.getElem?_eq_some_iff.1 h).1
  have ce6 : ∀ j u, ([.string ⟨#[97]⟩, .int .i64 2, .string ⟨#[108]⟩, .int .i64 4, .string ⟨#[109]⟩, .int .i64 5] : List Value)[j]? = some u → wf.cell? ⟨ge, j, none⟩ = some u := fun j u hj => by
    rw [cell_of_row _ _ _ _ _ _ fe]
    have hj6 : j < 6 := (List.getElem?_eq_some_iff.1 hj).1
    have e : (cure.toList.take (3 * 2))[j]? = cure.toList[j]? := List.getElem?_take_of_lt (by omega)
    rw [e6', hj] at e
    have e2 : cure[j]? = cure.toList[j]? := by simp
    rw [e2, ← e]
  obtain ⟨a, cap, hv, hng⟩ := ng_of_own hown6 (by
    intro x hx
    simp only [List.mem_cons, List.not_mem_nil, or_false] at hx
    rcases hx with rfl | rfl | rfl | rfl | rfl | rfl
    · exact ⟨none, 0, none, 0, rfl, rfl, by_nil _, eg_nil _⟩
    · refine ⟨none, 0, some ⟨ge, 0, none⟩, vc, rfl, rfl, by_nil _, rfl, e3, (by intro h; cases h), .inr ⟨ge, 0, rfl, ltf fe, fun i hi => ?_⟩⟩
      have h3 : i < 3 := hi
      match i, h3 with
      | 0, _ => exact ⟨ce6 0 _ rfl, ce6 1 _ rfl⟩
      | 1, _ => exact ⟨ce6 2 _ rfl, ce6 3 _ rfl⟩
      | 2, _ => exact ⟨ce6 4 _ rfl, ce6 5 _ rfl⟩
    · refine ⟨none, 0, some ⟨A, 0, none⟩, 1, rfl, rfl, by_nil _, rfl, Nat.le_refl _, (by intro h; cases h), .inr ⟨A, 0, rfl, ltf fA, fun i hi => ?_⟩⟩
      obtain rfl : i = 0 := by simp at hi; omega
      exact ⟨by rw [cell_of_row _ _ _ _ _ _ fA]; rfl, by rw [cell_of_row _ _ _ _ _ _ fA]; rfl⟩
    · refine ⟨some ⟨A + 1, 0, none⟩, 5, none, 0, rfl, rfl, ⟨rfl, Nat.le_refl _, (by intro h; cases h), .inr ⟨A + 1, 0, rfl, ltf fD, fun i hi => ?_⟩⟩, eg_nil _⟩
      rw [cell_of_row _ _ _ _ _ _ fD, Nat.zero_add]
      have h5 : i < 5 := hi
      match i, h5 with
      | 0, _ => rfl
      | 1, _ => rfl
      | 2, _ => rfl
      | 3, _ => rfl
      | 4, _ => rfl
    · exact ⟨none, 0, none, 0, rfl, rfl, by_nil _, eg_nil _⟩
    · exact ⟨none, 0, none, 0, rfl, rfl, by_nil _, eg_nil _⟩)
  injection hv with h1 _ h3
  subst h1 h3
  exact hng
end Go.Proofs.YthmoinagfooncaaDoor.Pt
