import Derived.Test.YtmpppdbomdepoaaGreatDoorSoPop
import Derived.Test.YtmpppdbomdepoaaGreatDoorSoIt
import Derived.Test.YtmpppdbomdepoaaGreatDoorSoThree
import Derived.Deep.RegionHeld3
import Derived.Laws.AppendOwn
import Derived.Laws.OwnMore
import Derived.Test.YtmpppdbomdepoaaGreatDoorSoInOrder
import Derived.Test.YtmpppdbomdepoaaGreatDoorSoSrt
import Derived.Test.YtmpppdbomdepoaaGreatDoorSoChk
import Derived.Test.YtmpppdbomdepoaaGreatDoorSoSays
/- The heap of lists of items behind its interface. -/
namespace Go.Proofs.YtmpppdbomdepoaaGreatDoor.So
open Go.RowKit Go.Shelf Ky

attribute [local go_sem] Oper.semAt_some

/-- what is left of a list: where it lies, and its items -/
structure El where
  g : Nat
  off : Nat
  cap : Nat
  items : List It
def el0 : El := ⟨0, 0, 0, []⟩
def ev (x : El) : Value := .slice (some ⟨x.g, x.off, none⟩) x.items.length x.cap
/-- the first one -/
def hd (x : El) : It := x.items.getD 0 it0
/-- its items lie there, in no block of X -/
structure El.ok (D : It → Prop) (X : Nat → Prop) (w : World) (x : El) : Prop where
  lt : x.g < w.heap.size
  nx : ¬ X x.g
  pos : 0 < x.items.length
  le : x.items.length ≤ x.cap
  d : ∀ y ∈ x.items, D y
  cells : ∀ j, j < x.items.length → w.cell? ⟨x.g, x.off + j * 3, none⟩ = some (.string (x.items.getD j it0).line) ∧ w.cell? ⟨x.g, x.off + j * 3 + 1, none⟩ = some (.string (x.items.getD j it0).key) ∧ w.cell? ⟨x.g, x.off + j * 3 + 2, none⟩ = some (.int .i64 (x.items.getD j it0).place)
theorem El.ok.kp {D : It → Prop} {X : Nat → Prop} {w w' : World} {x : El} (h : x.ok D X w) (k : Kp X w w') : x.ok D X w' :=
  have e : ∀ o, w'.cell? ⟨x.g, o, none⟩ = w.cell? ⟨x.g, o, none⟩ := fun o => World.cell?_of_block (a := ⟨x.g, o, none⟩) (k.block x.g h.lt h.nx)
  ⟨Nat.lt_of_lt_of_le h.lt k.size, h.nx, h.pos, h.le, h.d, fun j hj => by rw [e, e, e]; exact h.cells j hj⟩
theorem El.ok.first {D : It → Prop} {X : Nat → Prop} {w : World} {x : El} (h : x.ok D X w) : w.cell? ⟨x.g, x.off, none⟩ = some (.string (hd x).line) ∧ w.cell? ⟨x.g, x.off + 1, none⟩ = some (.string (hd x).key) ∧ w.cell? ⟨x.g, x.off + 2, none⟩ = some (.int .i64 (hd x).place) := by
  simpa [hd] using h.cells 0 h.pos
theorem El.ok.dhd {D : It → Prop} {X : Nat → Prop} {w : World} {x : El} (h : x.ok D X w) : D (hd x) := h.d _ (it_mem h.pos)

/-- the function that compares lists, by their first ones -/
def byFirst (q : Nat) : Value := .func (.func 78) #[] #[.pointer (some ⟨q, 0, none⟩)]

set_option maxRecDepth 100000 in
set_option maxHeartbeats 400000 in
theorem byFirst_any {W0 : World} {X : Nat → Prop} (f : Value) (c : It → It → Int) (D : It → Prop) (hC : Cmp W0 X f c D) (q : Nat) (Y : Nat → Prop) (w : World) (hK : Kp X W0 w) (hq : w.cell? ⟨q, 0, none⟩ = some f) (x y : El) (hx : x.ok D Y w) (hy : y.ok D Y w) :
    Calls Tryz.prog 78 #[ev x, ev y, .pointer (some ⟨q, 0, none⟩)] w fun e w' => e = .returned (.int .i64 (c (hd x) (hd y))) ∧ Below w.heap.size w w' := by
  obtain ⟨id, cp, rfl, en, CC⟩ := hC
  have hql : q < w.heap.size := World.block_lt_of_cell? w _ hq
  obtain ⟨a0, a1, a2⟩ := hx.first
  obtain ⟨b0, b1, b2⟩ := hy.first
  have hA : ∀ W, (Kp X W0 W ∧ Below w.heap.size w W) → (W.cell? ⟨q, 0, none⟩ = some (.func (.func id) #[] cp) ∧
      W.cell? ⟨x.g, x.off, none⟩ = some (.string (hd x).line) ∧ W.cell? ⟨x.g, x.off + 1, none⟩ = some (.string (hd x).key) ∧ W.cell? ⟨x.g, x.off + 2, none⟩ = some (.int .i64 (hd x).place) ∧
      W.cell? ⟨y.g, y.off, none⟩ = some (.string (hd y).line) ∧ W.cell? ⟨y.g, y.off + 1, none⟩ = some (.string (hd y).key) ∧ W.cell? ⟨y.g, y.off + 2, none⟩ = some (.int .i64 (hd y).place) ∧ Hid (Kp X W0 W ∧ Below w.heap.size w W)) := fun W h =>
    ⟨(h.2.cell (p := ⟨q, 0, none⟩) hql).trans hq, (h.2.cell (p := ⟨x.g, x.off, none⟩) hx.lt).trans a0, (h.2.cell (p := ⟨x.g, x.off + 1, none⟩) hx.lt).trans a1, (h.2.cell (p := ⟨x.g, x.off + 2, none⟩) hx.lt).trans a2, (h.2.cell (p := ⟨y.g, y.off, none⟩) hy.lt).trans b0, (h.2.cell (p := ⟨y.g, y.off + 1, none⟩) hy.lt).trans b1, (h.2.cell (p := ⟨y.g, y.off + 2, none⟩) hy.lt).trans b2, h⟩
  have CX : Hid (∀ W, (W.cell? ⟨q, 0, none⟩ = some (.func (.func id) #[] cp) ∧
      W.cell? ⟨x.g, x.off, none⟩ = some (.string (hd x).line) ∧ W.cell? ⟨x.g, x.off + 1, none⟩ = some (.string (hd x).key) ∧ W.cell? ⟨x.g, x.off + 2, none⟩ = some (.int .i64 (hd x).place) ∧
      W.cell? ⟨y.g, y.off, none⟩ = some (.string (hd y).line) ∧ W.cell? ⟨y.g, y.off + 1, none⟩ = some (.string (hd y).key) ∧ W.cell? ⟨y.g, y.off + 2, none⟩ = some (.int .i64 (hd y).place) ∧ Hid (Kp X W0 W ∧ Below w.heap.size w W)) → Calls Tryz.prog id (#[ia (hd x), ia (hd y)] ++ cp) W fun e w' => e = .returned (.int .i64 (c (hd x) (hd y))) ∧ (w'.cell? ⟨q, 0, none⟩ = some (.func (.func id) #[] cp) ∧
      w'.cell? ⟨x.g, x.off, none⟩ = some (.string (hd x).line) ∧ w'.cell? ⟨x.g, x.off + 1, none⟩ = some (.string (hd x).key) ∧ w'.cell? ⟨x.g, x.off + 2, none⟩ = some (.int .i64 (hd x).place) ∧
      w'.cell? ⟨y.g, y.off, none⟩ = some (.string (hd y).line) ∧ w'.cell? ⟨y.g, y.off + 1, none⟩ = some (.string (hd y).key) ∧ w'.cell? ⟨y.g, y.off + 2, none⟩ = some (.int .i64 (hd y).place) ∧ Hid (Kp X W0 w' ∧ Below w.heap.size w w'))) := fun W h =>
    (CC W (unhide h.2.2.2.2.2.2.2).1 _ _ hx.dhd hy.dhd).mono fun e w' r => ⟨r.1, hA w' ⟨(unhide h.2.2.2.2.2.2.2).1.step r.2, (unhide h.2.2.2.2.2.2.2).2.trans (r.2.mono (unhide h.2.2.2.2.2.2.2).2.size)⟩⟩
  have H := hA w.drew ⟨hK.drew, (Below.refl _ _).drew⟩
  have hxp := hx.pos
  have hyp := hy.pos
  clear CC hK hA hx hy a0 a1 a2 b0 b1 b2 hq
  unfold ia at CX
  unfold ev
  generalize hd x = a at *
  generalize hd y = b at *
  obtain ⟨al, ak, ap⟩ := a
  obtain ⟨bl, bk, bp⟩ := b
  simp only at H CX
  generalize c ⟨al, ak, ap⟩ ⟨bl, bk, bp⟩ = r at *
  obtain ⟨xg, xo, xc, xl⟩ := x
  obtain ⟨yg, yo, yc, yl⟩ := y
  simp only at H CX hxp hyp ⊢
  generalize xl.length = xn at *
  generalize yl.length = yn at *
  go_enter Tryz.func78, Tryz.ntmps78
  go_wp2_with fail
  go_region_held3 (fun w' => w'.cell? ⟨q, 0, none⟩ = some (.func (.func id) #[] cp) ∧
      w'.cell? ⟨xg, xo, none⟩ = some (.string al) ∧ w'.cell? ⟨xg, xo + 1, none⟩ = some (.string ak) ∧ w'.cell? ⟨xg, xo + 2, none⟩ = some (.int .i64 ap) ∧
      w'.cell? ⟨yg, yo, none⟩ = some (.string bl) ∧ w'.cell? ⟨yg, yo + 1, none⟩ = some (.string bk) ∧ w'.cell? ⟨yg, yo + 2, none⟩ = some (.int .i64 bp) ∧ Hid (Kp X W0 w' ∧ Below w.heap.size w w')) (first | assumption | go_keep)
    (with_reducible refine (unhide CX _ (by assumption)).mono ?_; rintro e w' ⟨rfl, hS1⟩)
  go_wp2_with fail
  go_ret
  exact ⟨rfl, (unhide hS1.2.2.2.2.2.2.2).2⟩

/-- the pile's own blocks -/
abbrev Xo (v0 : Value) (P : Nat) : Nat → Prop := fun k => k = P ∨ v0.ownBlock = some k
/-- the heap of lists at P, as it has grown out of W2, where its row was v0 -/
structure Sy (B : Nat) (W2 : World) (v0 : Value) (P q : Nat) (f : Value) (D : It → Prop) (w : World) (l : List El) : Prop where
  row : ∃ v, w.heap[P]? = some (.cells #[v, byFirst q] 84 (0, 0)) ∧ w.ownsRow B 61 1 v l.length (l.map ev) ∧ ∀ k, v.ownBlock = some k → v0.ownBlock = some k ∨ W2.heap.size ≤ k
  els : ∀ x ∈ l, x.ok D (Xo v0 P) W2
  kp : Kp (Xo v0 P) W2 w
/-- where the boxes lie -/
structure Fx (B : Nat) (W2 : World) (v0 : Value) (P q : Nat) (f : Value) : Prop where
  pb : P < B
  qb : q < B
  pq : q ≠ P
  bw : B ≤ W2.heap.size
  v0b : ∀ k, v0.ownBlock = some k → B ≤ k ∧ k < W2.heap.size
  box : W2.cell? ⟨q, 0, none⟩ = some f
theorem Fx.nq {B : Nat} {W2 : World} {v0 : Value} {P q : Nat} {f : Value} (h : Fx B W2 v0 P q f) : ¬ Xo v0 P q := fun e => by
  rcases e with e | e
  · exact h.pq e
  · have := (h.v0b q e).1; have := h.qb; omega
theorem Sy.step {B : Nat} {W2 : World} {v0 : Value} {P q : Nat} {f : Value} {D : It → Prop} {w w' : World} {l : List El} (h : Sy B W2 v0 P q f D w l) (hb : Below w.heap.size w w') : Sy B W2 v0 P q f D w' l := by
  obtain ⟨v, h1, h2, h3⟩ := h.row
  exact ⟨⟨v, (hb.block _ (Array.getElem?_eq_some_iff.1 h1).1).trans h1, h2.kept (row := none) ⟨hb.os, hb.tape, hb.output, hb.size, fun k hk _ => hb.block k hk⟩ (by cases v.ownBlock <;> simp), h3⟩, h.els, h.kp.step hb⟩
theorem own_sl {w : World} {base : Nat} {e : TypeId} {size : Nat} {v : Value} {n : Nat} {xs : List Value} (h : w.ownsRow base e size v n xs) : ∃ p cap, v = .slice p n cap := by
  rcases h.2 with ⟨rfl, rfl⟩ | ⟨g, cap, cur, rfl, hb, hg, _⟩
  · exact ⟨_, _, rfl⟩
  · exact ⟨_, _, rfl⟩
theorem own_sm {w : World} {base : Nat} {e : TypeId} {size : Nat} {v : Value} {n : Nat} {xs : List Value} (h : w.ownsRow base e size v n xs) (hn : 0 < n) : ∃ g cap, v = .slice (some ⟨g, 0, none⟩) n cap ∧ base ≤ g ∧ g < w.heap.size ∧ n ≤ cap := by
  rcases h.2 with ⟨_, h0⟩ | ⟨g, cap, cur, rfl, hb, hg, hc, _⟩
  · omega
  · exact ⟨g, cap, rfl, hb, (Array.getElem?_eq_some_iff.1 hg).1, hc⟩

set_option maxRecDepth 100000 in
set_option maxHeartbeats 400000 in
theorem len2_any {B : Nat} {W2 : World} {v0 : Value} {P q : Nat} {f : Value} {D : It → Prop} (w : World) (l : List El) (h : Sy B W2 v0 P q f D w l) :
    Calls Tryz.prog 80 #[.pointer (some ⟨P, 0, none⟩)] w fun e w' => e = .returned (.int .i64 l.length) ∧ w' = w := by
  obtain ⟨v, h1, h2, h3⟩ := h.row
  obtain ⟨p, cap, rfl⟩ := own_sl h2
  have hc0 : w.cell? ⟨P, 0, none⟩ = some (.slice p l.length cap) := cell_of_row _ _ 0 _ _ _ h1
  clear h h1 h2 h3
  go_enter Tryz.func80, Tryz.ntmps80
  go_wp2_with fail
  go_ret
  exact ⟨rfl, rfl⟩

theorem ev_at (l : List El) (i : Nat) (h : i < l.length) : (l.map ev)[i]? = some (ev (l.getD i el0)) := by
  rw [List.getElem?_map, List.getElem?_eq_getElem h, List.getD_eq_getElem?_getD, List.getElem?_eq_getElem h]; rfl
theorem el_mem {l : List El} {i : Nat} (h : i < l.length) : l.getD i el0 ∈ l := by
  rw [List.getD_eq_getElem?_getD, List.getElem?_eq_getElem h]; exact List.getElem_mem h

set_option maxRecDepth 100000 in
set_option maxHeartbeats 400000 in
theorem less2_any {B : Nat} {W0 W2 : World} {X : Nat → Prop} {v0 : Value} {P q : Nat} {f : Value} {D : It → Prop} (c : It → It → Int) (hC : Cmp W0 X f c D) (hK : ∀ w, Kp (Xo v0 P) W2 w → Kp X W0 w) (hF : Fx B W2 v0 P q f) (w : World) (l : List El) (i j : Nat) (h : Sy B W2 v0 P q f D w l) (hi : i < l.length) (hj : j < l.length) :
    Calls Tryz.prog 225 #[.pointer (some ⟨P, 0, none⟩), .int .i64 i, .int .i64 j] w fun e w' => e = .returned (.bool (decide (c (hd (l.getD i el0)) (hd (l.getD j el0)) < 0))) ∧ Sy B W2 v0 P q f D w' l := by
  obtain ⟨v, h1, h2, h3⟩ := h.row
  obtain ⟨g, cap, rfl, hg1, hg2, hcap⟩ := own_sm h2 (by omega)
  have hPl := (Array.getElem?_eq_some_iff.1 h1).1
  have c0 := (h2.cellAt i (by omega)).trans (ev_at l i hi)
  have c1 := (h2.cellAt j (by omega)).trans (ev_at l j hj)
  have p0 : w.cell? ⟨P, 0, none⟩ = some (.slice (some ⟨g, 0, none⟩) l.length cap) := cell_of_row _ _ 0 _ _ _ h1
  have p1 : w.cell? ⟨P, 1, none⟩ = some (byFirst q) := cell_of_row _ _ 1 _ _ _ h1
  have hA : ∀ W, (Sy B W2 v0 P q f D W l ∧ Below w.heap.size w W) → (W.cell? ⟨P, 0, none⟩ = some (.slice (some ⟨g, 0, none⟩) l.length cap) ∧ W.cell? ⟨P, 1, none⟩ = some (byFirst q) ∧ W.cell? ⟨g, i, none⟩ = some (ev (l.getD i el0)) ∧ W.cell? ⟨g, j, none⟩ = some (ev (l.getD j el0)) ∧ Hid (Sy B W2 v0 P q f D W l ∧ Below w.heap.size w W)) := fun W h =>
    ⟨(h.2.cell (p := ⟨P, 0, none⟩) hPl).trans p0, (h.2.cell (p := ⟨P, 1, none⟩) hPl).trans p1, (h.2.cell (p := ⟨g, i, none⟩) hg2).trans c0, (h.2.cell (p := ⟨g, j, none⟩) hg2).trans c1, h⟩
  have CX : Hid (∀ W, (W.cell? ⟨P, 0, none⟩ = some (.slice (some ⟨g, 0, none⟩) l.length cap) ∧ W.cell? ⟨P, 1, none⟩ = some (byFirst q) ∧ W.cell? ⟨g, i, none⟩ = some (ev (l.getD i el0)) ∧ W.cell? ⟨g, j, none⟩ = some (ev (l.getD j el0)) ∧ Hid (Sy B W2 v0 P q f D W l ∧ Below w.heap.size w W)) →
      Calls Tryz.prog 78 #[ev (l.getD i el0), ev (l.getD j el0), .pointer (some ⟨q, 0, none⟩)] W fun e w' => e = .returned (.int .i64 (c (hd (l.getD i el0)) (hd (l.getD j el0)))) ∧ (w'.cell? ⟨P, 0, none⟩ = some (.slice (some ⟨g, 0, none⟩) l.length cap) ∧ w'.cell? ⟨P, 1, none⟩ = some (byFirst q) ∧ w'.cell? ⟨g, i, none⟩ = some (ev (l.getD i el0)) ∧ w'.cell? ⟨g, j, none⟩ = some (ev (l.getD j el0)) ∧ Hid (Sy B W2 v0 P q f D w' l ∧ Below w.heap.size w w'))) := fun W h => by
    have h5 := unhide h.2.2.2.2
    have hqc : W.cell? ⟨q, 0, none⟩ = some f := (World.cell?_of_block (a := ⟨q, 0, none⟩) (h5.1.kp.block q (by have := hF.qb; have := hF.bw; omega) hF.nq)).trans hF.box
    exact (byFirst_any f c D hC q (Xo v0 P) W (hK W h5.1.kp) hqc _ _ ((h5.1.els _ (el_mem hi)).kp h5.1.kp) ((h5.1.els _ (el_mem hj)).kp h5.1.kp)).mono fun e w' r => ⟨r.1, hA w' ⟨h5.1.step r.2, h5.2.trans (r.2.mono h5.2.size)⟩⟩
  have H := hA w.drew ⟨h.step ((Below.refl _ _).drew), (Below.refl _ _).drew⟩
  clear h hC hK hA h1 h2 h3 c0 c1 p0 p1 hF
  unfold byFirst at CX H
  generalize c (hd (l.getD i el0)) (hd (l.getD j el0)) = r at *
  generalize ev (l.getD i el0) = a at *
  generalize ev (l.getD j el0) = b at *
  go_enter Tryz.func225, Tryz.ntmps225
  go_wp2_with fail
  go_region_held3 (fun w' => w'.cell? ⟨P, 0, none⟩ = some (.slice (some ⟨g, 0, none⟩) l.length cap) ∧ w'.cell? ⟨P, 1, none⟩ = some (.func (.func 78) #[] #[.pointer (some ⟨q, 0, none⟩)]) ∧ w'.cell? ⟨g, i, none⟩ = some a ∧ w'.cell? ⟨g, j, none⟩ = some b ∧ Hid (Sy B W2 v0 P q f D w' l ∧ Below w.heap.size w w')) (first | assumption | go_keep)
    (with_reducible refine (unhide CX _ (by assumption)).mono ?_; rintro e w' ⟨rfl, hS1⟩)
  go_wp2_with fail
  go_ret
  exact ⟨rfl, (unhide hS1.2.2.2.2).1⟩

theorem Kp.set2 {X : Nat → Prop} {a b : World} (h : Kp X a b) {p : Addr} (hp : X p.block ∨ a.heap.size ≤ p.block) (v : Value) : Kp X a (b.setCell p v) :=
  ⟨h.os, h.tape, h.output, by simpa [World.setCell] using h.size, fun i hi hn => (Below.heap_setCell _ _ _ _ (fun e => by
    rcases hp with hp | hp
    · exact hn (by rw [e]; exact hp)
    · rw [← e] at hp; omega)).trans (h.block i hi hn)⟩
theorem swp_ev (l : List El) (i j : Nat) : ((l.map ev).set i (ev (l.getD j el0))).set j (ev (l.getD i el0)) = (swp el0 l i j).map ev := by
  show _ = ((l.set i (l.getD j el0)).set j (l.getD i el0)).map ev
  rw [List.map_set, List.map_set]

set_option maxRecDepth 100000 in
set_option maxHeartbeats 800000 in
theorem swap2_any {B : Nat} {W2 : World} {v0 : Value} {P q : Nat} {f : Value} {D : It → Prop} (hF : Fx B W2 v0 P q f) (w : World) (l : List El) (i j : Nat) (h : Sy B W2 v0 P q f D w l) (hi : i < l.length) (hj : j < l.length) :
    Calls Tryz.prog 228 #[.pointer (some ⟨P, 0, none⟩), .int .i64 i, .int .i64 j] w fun e w' => e = .returned (.tuple #[]) ∧ Sy B W2 v0 P q f D w' (swp el0 l i j) := by
  obtain ⟨v, h1, h2, h3⟩ := h.row
  obtain ⟨g, cap, rfl, hg1, hg2, hcap⟩ := own_sm h2 (by omega)
  have hPl := (Array.getElem?_eq_some_iff.1 h1).1
  have hgP : g ≠ P := by have := hF.pb; omega
  have c0 := (h2.cellAt i (by omega)).trans (ev_at l i hi)
  have c1 := (h2.cellAt j (by omega)).trans (ev_at l j hj)
  have fz0 := h2.frozenAt i
  have fz1 := h2.frozenAt j
  have p0 : w.cell? ⟨P, 0, none⟩ = some (.slice (some ⟨g, 0, none⟩) l.length cap) := cell_of_row _ _ 0 _ _ _ h1
  have FIN : Hid (Sy B W2 v0 P q f D ((w.setCell ⟨g, i, none⟩ (ev (l.getD j el0))).setCell ⟨g, j, none⟩ (ev (l.getD i el0))).drew (swp el0 l i j)) := by
    obtain ⟨s1, t1⟩ := h2.stored i (ev (l.getD j el0))
    obtain ⟨s2, t2⟩ := s1.stored j (ev (l.getD i el0))
    rw [swp_ev] at s2
    have k1 : Xo v0 P g ∨ W2.heap.size ≤ g := by
      rcases h3 g rfl with e | e
      · exact .inl (.inr e)
      · exact .inr e
    refine ⟨⟨_, ?_, by rw [swp_len]; exact s2, h3⟩, fun x hx => h.els x ((swp_perm el0 l hi hj).subset hx), ((h.kp.set2 (p := ⟨g, i, none⟩) k1 _).set2 (p := ⟨g, j, none⟩) k1 _).drew⟩
    exact ((t2.block P (by simpa [World.setCell] using hPl) (by simpa using Ne.symm hgP)).trans (t1.block P hPl (by simpa using Ne.symm hgP))).trans h1
  clear h h1 h2 h3 hF
  by_cases hij : i = j
  · subst hij
    obtain ⟨a1, a2, a3, ea⟩ : ∃ a n c, ev (l.getD i el0) = .slice (some a) n c := ⟨_, _, _, rfl⟩
    rw [ea] at c0 c1 FIN
    clear ea
    go_enter Tryz.func228, Tryz.ntmps228
    go_wp2_with fail
    go_region
    go_wp2_with fail
    go_end0
    exact ⟨rfl, unhide FIN⟩
  · obtain ⟨a1, a2, a3, ea⟩ : ∃ a n c, ev (l.getD i el0) = .slice (some a) n c := ⟨_, _, _, rfl⟩
    obtain ⟨b1, b2, b3, eb⟩ : ∃ a n c, ev (l.getD j el0) = .slice (some a) n c := ⟨_, _, _, rfl⟩
    rw [ea] at c0 FIN
    rw [eb] at c1 FIN
    clear ea eb
    go_enter Tryz.func228, Tryz.ntmps228
    go_wp2_with fail
    go_region
    go_wp2_with fail
    go_end0
    exact ⟨rfl, unhide FIN⟩

theorem own_fewer {w : World} {base : Nat} {e : TypeId} {g n cap : Nat} {xs : List Value} (h : w.ownsRow base e 1 (.slice (some ⟨g, 0, none⟩) n cap) n xs) (m : Nat) (hm : m ≤ n) : w.ownsRow base e 1 (.slice (some ⟨g, 0, none⟩) m cap) m (xs.take m) := by
  rcases h.2 with ⟨h', _⟩ | ⟨g', cap', cur, h', hb, hg, hnc, hcm, hcs, htake⟩
  · simp at h'
  · simp only [Value.slice.injEq, Option.some.injEq, Addr.mk.injEq, and_true, true_and] at h'
    obtain ⟨rfl, rfl⟩ := h'
    refine ⟨by have := h.1; rw [List.length_take]; omega, .inr ⟨g, cap, cur, rfl, hb, hg, by omega, hcm, hcs, ?_⟩⟩
    rw [← htake, List.take_take]
    congr 1
    omega

set_option maxRecDepth 100000 in
set_option maxHeartbeats 400000 in
theorem pop2_any {B : Nat} {W2 : World} {v0 : Value} {P q : Nat} {f : Value} {D : It → Prop} (hF : Fx B W2 v0 P q f) (w : World) (l : List El) (h : Sy B W2 v0 P q f D w l) (h0 : 0 < l.length) (hl : l.length ≤ 65536) :
    Calls Tryz.prog 226 #[.pointer (some ⟨P, 0, none⟩)] w fun e w' => e = .returned (.iface 61 (ev (l.getD (l.length - 1) el0))) ∧ Sy B W2 v0 P q f D w' (l.take (l.length - 1)) := by
  obtain ⟨m, hm⟩ : ∃ m, m + 1 = l.length := ⟨l.length - 1, by omega⟩
  rw [show l.length - 1 = m by omega]
  have em : (l.length : Int) - 1 = (m : Int) := by omega
  obtain ⟨v, h1, h2, h3⟩ := h.row
  obtain ⟨g, cap, rfl, hg1, hg2, hcap⟩ := own_sm h2 h0
  have hPl := (Array.getElem?_eq_some_iff.1 h1).1
  have hgP : g ≠ P := by have := hF.pb; omega
  have c0 := (h2.cellAt m (by omega)).trans (ev_at l m (by omega))
  have p0 : w.cell? ⟨P, 0, none⟩ = some (.slice (some ⟨g, 0, none⟩) l.length cap) := cell_of_row _ _ 0 _ _ _ h1
  have fz : w.frozen? ⟨P, 0, none⟩ = false := by simp [World.frozen?, h1]
  have FIN : Hid (Sy B W2 v0 P q f D (w.setCell ⟨P, 0, none⟩ (.slice (some ⟨g, 0, none⟩) m cap)) (l.take m)) := by
    have hlt : (l.take m).length = m := by rw [List.length_take]; omega
    refine ⟨⟨.slice (some ⟨g, 0, none⟩) m cap, row_set _ h1, ?_, h3⟩, fun x hx => h.els x (List.mem_of_mem_take hx), h.kp.set (p := ⟨P, 0, none⟩) (.inl rfl) _⟩
    rw [hlt, List.map_take]
    exact (own_fewer h2 m (by omega)).kept (row := some P) ⟨rfl, rfl, rfl, by simp [World.setCell], fun k _ hk => Below.heap_setCell _ _ _ _ (fun e => hk (by rw [e]))⟩ (.inr (by simpa [Value.ownBlock] using hgP))
  have hm' : m < l.length := by omega
  clear h h1 h2 h3 hF hm h0
  generalize ev (l.getD m el0) = a at *
  go_enter Tryz.func226, Tryz.ntmps226
  go_wp2_with fail
  go_ret
  exact ⟨rfl, unhide FIN⟩

theorem Tryz.assertItems (v : Value) (w : World) : (Instr.typeAssert (.iface 61 v) 20 61 false).run Tryz.prog w = .ok v w := by kernel_rfl
theorem Tryz.infoItems : (Tryz.prog.info? 61).map (fun i => (i.zero, i.size, i.bytes)) = some (some (.slice none 0 0), 1, 24) := by kernel_rfl
theorem ev_one (x : El) : ∀ u ∈ [ev x], u.oneCell' = true := by
  intro u hu
  simp at hu
  subst hu
  rfl
theorem ev_new (w : World) (x : Value) (e : TypeId) : ∀ j u, [x][j]? = some u → (w.alloc (.cells #[x] e)).cell? ((⟨w.heap.size, 0, none⟩ : Addr).add j) = some u := by
  intro j u hj
  match j, hj with
  | 0, hj => simp at hj; subst hj; simp [Addr.add]

set_option maxRecDepth 100000 in
set_option maxHeartbeats 800000 in
theorem push2_any {B : Nat} {W2 : World} {v0 : Value} {P q : Nat} {f : Value} {D : It → Prop} (hF : Fx B W2 v0 P q f) (w : World) (l : List El) (x : El) (h : Sy B W2 v0 P q f D w l) (hx : x.ok D (Xo v0 P) W2) (hl : l.length < 65536) :
    Calls Tryz.prog 227 #[.pointer (some ⟨P, 0, none⟩), .iface 61 (ev x)] w fun e w' => e = .returned (.tuple #[]) ∧ Sy B W2 v0 P q f D w' (l ++ [x]) := by
  obtain ⟨i0, hi, hz0, hz1, hz2⟩ := info_parts Tryz.infoItems
  have hta := Tryz.assertItems
  obtain ⟨v, h1, h2, h3⟩ := h.row
  have hPl := (Array.getElem?_eq_some_iff.1 h1).1
  have hvP : ∀ k, v.ownBlock = some k → k ≠ P := fun k hk e => by have := (h2.lt k hk).1; have := hF.pb; omega
  obtain ⟨p, cap, rfl⟩ := own_sl h2
  have p0 : w.cell? ⟨P, 0, none⟩ = some (.slice p l.length cap) := cell_of_row _ _ 0 _ _ _ h1
  have hBw : B ≤ w.heap.size := Nat.le_trans hF.bw h.kp.size
  have HU := hide h2
  have FIN : Hid (∀ (W w2 : World) (v1 : Value), W.heap.size = w.heap.size + 1 → (∀ k, k < w.heap.size → W.heap[k]? = w.heap[k]?) → W.os = w.os → W.tape = w.tape → W.output = w.output → w2.ownsRow B 61 1 v1 (l.length + 1) (l.map ev ++ [ev x]) → W.grownBy w2 (Value.slice p l.length cap).ownBlock → (v1.ownBlock = (Value.slice p l.length cap).ownBlock ∨ v1.ownBlock = some W.heap.size) →
      w2.cell? ⟨P, 0, none⟩ = some (.slice p l.length cap) ∧ w2.frozen? ⟨P, 0, none⟩ = false ∧ Sy B W2 v0 P q f D (w2.setCell ⟨P, 0, none⟩ v1) (l ++ [x])) := fun W w2 v1 e0 e1 e2 e3 e4 r1 r2 r3 => by
    have hP2 : w2.heap[P]? = some (.cells #[.slice p l.length cap, byFirst q] 84 (0, 0)) :=
      ((r2.block P (by omega) (fun e => hvP P e.symm rfl)).trans (e1 P hPl)).trans h1
    refine ⟨cell_of_row _ _ 0 _ _ _ hP2, by simp [World.frozen?, hP2], ⟨v1, row_set _ hP2, ?_, ?_⟩, ?_, ?_⟩
    · rw [List.length_append, List.map_append]
      exact r1.kept (row := some P) ⟨rfl, rfl, rfl, by simp [World.setCell], fun k _ hk => Below.heap_setCell _ _ _ _ (fun e => hk (by rw [e]))⟩ (by
        cases hv : v1.ownBlock with
        | none => exact .inl rfl
        | some k => exact .inr (fun e => by have := (r1.lt k hv).1; have := hF.pb; have := Option.some.inj e; omega))
    · intro k hk
      rcases r3 with r3 | r3
      · exact h3 k (r3.symm.trans hk)
      · rw [hk] at r3
        have := Option.some.inj r3
        have := h.kp.size
        exact .inr (by omega)
    · intro y hy
      rcases List.mem_append.1 hy with hy | hy
      · exact h.els y hy
      · rw [List.mem_singleton.1 hy]; exact hx
    · refine Kp.set (p := ⟨P, 0, none⟩) ?_ (.inl rfl) _
      have hks := h.kp.size
      refine ⟨r2.os.trans (e2.trans h.kp.os), r2.tape.trans (e3.trans h.kp.tape), r2.output.trans (e4.trans h.kp.output), by have := r2.size; omega, fun k hk hn => ?_⟩
      refine (r2.block k (by omega) (fun e => ?_)).trans ((e1 k (by omega)).trans (h.kp.block k hk hn))
      rcases h3 k e.symm with e' | e'
      · exact hn (.inr e')
      · omega
  clear h h1 h2 h3 hF hx hvP
  have hev := ev_one x
  obtain ⟨a1, a2, a3, ea⟩ : ∃ a n c, ev x = .slice (some a) n c := ⟨_, _, _, rfl⟩
  rw [ea] at FIN hev ⊢
  clear ea
  have HEV := hide hev
  clear hev
  go_enter Tryz.func227, Tryz.ntmps227
  go_wp2_with fail
  go_region_law (refine step_append_own rfl (.tmp 8) (.tmp 11) 60 rfl B 61 i0 _ 1 24 Tryz.underlying60 hi hz0 hz1 hz2 rfl (by decide) (.slice p l.length cap) l.length (l.map ev) (by simp [Act.eval]) (by exact ((unhide HU).alloc _)) ⟨w.heap.size, 0, none⟩ 1 1 [.slice (some a1) a2 a3] (by simp [Act.eval]) rfl (by exact ev_new _ _ _) (unhide HEV) (by unfold maxLen; omega) (by omega) (by simp; omega) ?_; intro v1 w2 hown2 hg2 hb2; have hFF := unhide FIN ((w.alloc (.cells #[.slice (some a1) a2 a3] 61)).drew) w2 v1 (by show (w.alloc _).heap.size = _; simp) (fun k hk => Below.heap_alloc w _ k hk) rfl rfl rfl hown2 hg2 hb2; have c0' := hFF.1; have f0' := hFF.2.1; have HS := hide hFF.2.2; obtain ⟨va, vc, rfl⟩ := own_sl hown2; clear hown2 hg2 hb2 hFF)
  all_goals
    go_wp2
    go_end0
    exact ⟨rfl, unhide HS⟩

/-- on from where it stands now -/
theorem Sy.rebase {B : Nat} {W2 : World} {v0 : Value} {P q : Nat} {f : Value} {D : It → Prop} {w : World} {l : List El} (hF : Fx B W2 v0 P q f) (h : Sy B W2 v0 P q f D w l) : ∃ v, Fx B w v P q f ∧ Sy B w v P q f D w l ∧ (∀ k, v.ownBlock = some k → v0.ownBlock = some k ∨ W2.heap.size ≤ k) ∧ ∀ x : El, x.ok D (Xo v0 P) W2 → x.ok D (Xo v P) w := by
  obtain ⟨v, h1, h2, h3⟩ := h.row
  have hok : ∀ x : El, x.ok D (Xo v0 P) W2 → x.ok D (Xo v P) w := fun x hx => by
    have h5 := hx.kp h.kp
    refine ⟨h5.lt, fun e => ?_, h5.pos, h5.le, h5.d, h5.cells⟩
    rcases e with e | e
    · exact hx.nx (.inl e)
    · rcases h3 _ e with e' | e'
      · exact hx.nx (.inr e')
      · have := hx.lt; omega
  refine ⟨v, ⟨hF.pb, hF.qb, hF.pq, Nat.le_trans hF.bw h.kp.size, fun k hk => h2.lt k hk, ?_⟩, ⟨⟨v, h1, h2, fun k hk => .inl hk⟩, fun x hx => hok x (h.els x hx), Kp.refl _ _⟩, h3, hok⟩
  exact (World.cell?_of_block (a := ⟨q, 0, none⟩) (h.kp.block q (by have := hF.qb; have := hF.bw; omega) hF.nq)).trans hF.box

theorem Tryz.meth2 (P : Nat) : Meth 81 ⟨P, 0, none⟩ "Len" 80 ∧ Meth 81 ⟨P, 0, none⟩ "Less" 225 ∧ Meth 81 ⟨P, 0, none⟩ "Swap" 228 ∧ Meth 81 ⟨P, 0, none⟩ "Pop" 226 ∧ Meth 81 ⟨P, 0, none⟩ "Push" 227 :=
  ⟨⟨fun _ => by kernel_rfl, enters_of Tryz.func80 (by kernel_rfl) rfl⟩, ⟨fun _ => by kernel_rfl, enters_of Tryz.func225 (by kernel_rfl) rfl⟩, ⟨fun _ => by kernel_rfl, enters_of Tryz.func228 (by kernel_rfl) rfl⟩, ⟨fun _ => by kernel_rfl, enters_of Tryz.func226 (by kernel_rfl) rfl⟩, ⟨fun _ => by kernel_rfl, enters_of Tryz.func227 (by kernel_rfl) rfl⟩⟩
/-- lists compare by their first ones -/
def c2 (c : It → It → Int) (x y : El) : Int := c (hd x) (hd y)
theorem good2 {c : It → It → Int} (h : Ky.Good c) : Ky.Good (c2 c) := ⟨fun _ _ => h.rg _ _, fun _ _ => h.tn _ _, fun _ _ _ => h.tr _ _ _⟩
/-- the heap of lists, behind its interface -/
theorem pile2 {B : Nat} {W0 W2 : World} {X : Nat → Prop} {v0 : Value} {P q : Nat} {f : Value} {D : It → Prop} (c : It → It → Int) (hC : Cmp W0 X f c D) (hK : ∀ w, Kp (Xo v0 P) W2 w → Kp X W0 w) (hF : Fx B W2 v0 P q f) :
    Pile 81 ⟨P, 0, none⟩ (fun w l => Sy B W2 v0 P q f D w l ∧ l.length ≤ 65536) (c2 c) el0 ∧ PileOff 81 ⟨P, 0, none⟩ (fun w l => Sy B W2 v0 P q f D w l ∧ l.length ≤ 65536) el0 (fun x => .iface 61 (ev x)) ∧
    PileOn 81 ⟨P, 0, none⟩ (fun w l => Sy B W2 v0 P q f D w l ∧ l.length ≤ 65536) (fun _ x => x.ok D (Xo v0 P) W2) (fun x => .iface 61 (ev x)) :=
  ⟨⟨⟨_, (Tryz.meth2 P).1, fun w l h => (len2_any w l h.1).mono fun _ _ r => ⟨r.1, r.2 ▸ h⟩⟩,
    ⟨_, (Tryz.meth2 P).2.1, fun w l i j h hi hj => (less2_any c hC hK hF w l i j h.1 hi hj).mono fun _ _ r => ⟨r.1, r.2, h.2⟩⟩,
    ⟨_, (Tryz.meth2 P).2.2.1, fun w l i j h hi hj => (swap2_any hF w l i j h.1 hi hj).mono fun _ _ r => ⟨r.1, r.2, by rw [swp_len]; exact h.2⟩⟩⟩,
   ⟨⟨_, (Tryz.meth2 P).2.2.2.1, fun w l h h0 => (pop2_any hF w l h.1 h0 h.2).mono fun _ _ r => ⟨r.1, r.2, by rw [List.length_take]; have := h.2; omega⟩⟩⟩,
   ⟨⟨_, (Tryz.meth2 P).2.2.2.2, fun w l x h hx hl => (push2_any hF w l x h.1 hx hl).mono fun _ _ r => ⟨r.1, r.2, by rw [List.length_append, List.length_singleton]; omega⟩⟩⟩⟩
end Go.Proofs.YtmpppdbomdepoaaGreatDoor.So

/- Lists that are in order, as one: merge. -/
namespace Go.Proofs.YtmpppdbomdepoaaGreatDoor.So
open Go.RowKit Go.Shelf Ky

attribute [local go_sem] Oper.semAt_some

/-- all that is left -/
def rest (l : List El) : List It := (l.map El.items).flatten
theorem rest_cons (x : El) (l : List El) : rest (x :: l) = x.items ++ rest l := by simp [rest]
theorem rest_perm {l m : List El} (h : l.Perm m) : (rest l).Perm (rest m) := (h.map El.items).flatten
theorem rest_len : ∀ {l : List El}, (∀ x ∈ l, 0 < x.items.length) → l.length ≤ (rest l).length
  | [], _ => Nat.le_refl _
  | x :: l, h => by
    have h1 := h x List.mem_cons_self
    have h2 := rest_len (l := l) (fun y hy => h y (List.mem_cons_of_mem _ hy))
    rw [rest_cons, List.length_append, List.length_cons]; omega
/-- a list that is handed in -/
def InL (D : It → Prop) (w : World) (v : Value) (m : List It) : Prop := (m = [] ∧ ∃ p c, v = .slice p 0 c) ∨ ∃ x : El, v = ev x ∧ x.items = m ∧ x.ok D (fun _ => False) w

/-- the heap of lists as it stands in w, none of what was there at w0 changed -/
structure Mg (w0 : World) (v : Value) (P q : Nat) (f : Value) (D : It → Prop) (c : It → It → Int) (w : World) (l : List El) : Prop where
  fx : Fx (w0.heap.size + 2) w v P q f
  sy : Sy (w0.heap.size + 2) w v P q f D w l
  hp : Hp (c2 c) el0 l 0 l.length
  bl : Below w0.heap.size w0 w
  big : w0.heap.size ≤ P ∧ w0.heap.size ≤ q
  ino : ∀ x ∈ l, InO c x.items
  low : ∀ x ∈ l, x.g < w0.heap.size
theorem Mg.kp {w0 : World} {v : Value} {P q : Nat} {f : Value} {D : It → Prop} {c : It → It → Int} {w : World} {l : List El} (h : Mg w0 v P q f D c w l) (w' : World) (k : Kp (Xo v P) w w') : Kp (fun _ => False) w0 w' ∧ Below w0.heap.size w0 w' := by
  have hb : ∀ i, i < w0.heap.size → w'.heap[i]? = w0.heap[i]? := fun i hi =>
    (k.block i (Nat.lt_of_lt_of_le hi h.bl.size) (fun e => by
      rcases e with e | e
      · have := h.big.1; omega
      · have := (h.fx.v0b i e).1; omega)).trans (h.bl.block i hi)
  exact ⟨⟨k.os.trans h.bl.os, k.tape.trans h.bl.tape, k.output.trans h.bl.output, Nat.le_trans h.bl.size k.size, fun i hi _ => hb i hi⟩, ⟨k.os.trans h.bl.os, k.tape.trans h.bl.tape, k.output.trans h.bl.output, Nat.le_trans h.bl.size k.size, hb⟩⟩

/-- what stays as it was: blocks of one's own that are not the pile's -/
def Aside (v v' : Value) (P : Nat) (w w' : World) : Prop := Kp (Xo v P) w w' ∧ (∀ k, v'.ownBlock = some k → v.ownBlock = some k ∨ w.heap.size ≤ k)

theorem push_mg {w0 : World} {v : Value} {P q : Nat} {f : Value} {D : It → Prop} {c : It → It → Int} (hG : Ky.Good c) (hC : Cmp w0 (fun _ => False) f c D) {w : World} {l : List El} (h : Mg w0 v P q f D c w l) (x : El) (hx : x.ok D (Xo v P) w) (hxo : InO c x.items) (hxl : x.g < w0.heap.size) (hl : l.length < 65536) :
    Calls Tryz.prog 79 #[.iface 81 (.pointer (some ⟨P, 0, none⟩)), .iface 61 (ev x)] w fun e w' => e = .returned (.tuple #[]) ∧ Hid (∃ v' l', Mg w0 v' P q f D c w' l' ∧ l'.Perm (x :: l) ∧ Aside v v' P w w') := by
  obtain ⟨p1, p2, p3⟩ := pile2 (B := w0.heap.size + 2) (W2 := w) (v0 := v) (P := P) (q := q) (f := f) (D := D) c hC (fun w' k => (h.kp w' k).1) h.fx
  refine (push_any p1 p3 (good2 hG) l x w ⟨h.sy, by omega⟩ hx hl h.hp).mono fun e w' r => ⟨r.1, ?_⟩
  obtain ⟨l', ⟨r1, r2⟩, r3, r4⟩ := unhide r.2
  obtain ⟨v', s1, s2, s3, s4⟩ := r1.rebase h.fx
  refine ⟨v', l', ⟨s1, s2, r4, (h.kp w' r1.kp).2, h.big, fun y hy => ?_, fun y hy => ?_⟩, r3, r1.kp, s3⟩
  · rcases List.mem_cons.1 (r3.subset hy) with rfl | hy
    · exact hxo
    · exact h.ino y hy
  · rcases List.mem_cons.1 (r3.subset hy) with rfl | hy
    · exact hxl
    · exact h.low y hy
theorem pop_mg {w0 : World} {v : Value} {P q : Nat} {f : Value} {D : It → Prop} {c : It → It → Int} (hG : Ky.Good c) (hC : Cmp w0 (fun _ => False) f c D) {w : World} {l : List El} (h : Mg w0 v P q f D c w l) (h0 : 0 < l.length) (hl : l.length ≤ 65536) :
    Calls Tryz.prog 81 #[.iface 81 (.pointer (some ⟨P, 0, none⟩))] w fun e w' => e = .returned (.iface 61 (ev (l.getD 0 el0))) ∧ Hid (∃ v' l', Mg w0 v' P q f D c w' l' ∧ (l.getD 0 el0 :: l').Perm l ∧ Aside v v' P w w' ∧ (l.getD 0 el0).ok D (Xo v' P) w') := by
  obtain ⟨p1, p2, p3⟩ := pile2 (B := w0.heap.size + 2) (W2 := w) (v0 := v) (P := P) (q := q) (f := f) (D := D) c hC (fun w' k => (h.kp w' k).1) h.fx
  refine (pop_any p1 p2 (good2 hG) l w ⟨h.sy, hl⟩ hl h0 h.hp).mono fun e w' r => ⟨r.1, ?_⟩
  obtain ⟨l', ⟨r1, r2⟩, r3, r4⟩ := unhide r.2
  obtain ⟨v', s1, s2, s3, s4⟩ := r1.rebase h.fx
  exact ⟨v', l', ⟨s1, s2, r4, (h.kp w' r1.kp).2, h.big, fun y hy => h.ino y (r3.subset (List.mem_cons_of_mem _ hy)), fun y hy => h.low y (r3.subset (List.mem_cons_of_mem _ hy))⟩, r3, ⟨r1.kp, s3⟩, s4 _ (h.sy.els _ (el_mem h0))⟩

/-- half way: O is out and in order, R is left, none of which comes ahead of those in O -/
structure HL (c : It → It → Int) (M O R : List It) : Prop where
  perm : (O ++ R).Perm M
  ino : InO c O
  le : ∀ y ∈ O, ∀ z ∈ R, c y z ≤ 0
theorem hd_le {c : It → It → Int} (g : Ky.Good c) {x : El} (hi : InO c x.items) {z : It} (hz : z ∈ x.items) : c (hd x) z ≤ 0 := by
  unfold hd
  unfold InO at hi
  cases hx : x.items with
  | nil => rw [hx] at hz; cases hz
  | cons y t =>
    rw [hx] at hz hi
    rcases List.mem_cons.1 hz with rfl | hz
    · show c z z ≤ 0; rw [g.self]; exact Int.le_refl _
    · exact (List.pairwise_cons.1 hi).1 z hz
theorem HL.step {c : It → It → Int} (g : Ky.Good c) {M O : List It} {l : List El} (h : HL c M O (rest l)) (hp : Hp (c2 c) el0 l 0 l.length) (hi : ∀ x ∈ l, InO c x.items) {R' : List It} (hR : (hd (l.getD 0 el0) :: R').Perm (rest l)) : HL c M (O ++ [hd (l.getD 0 el0)]) R' := by
  have top : ∀ z ∈ rest l, c (hd (l.getD 0 el0)) z ≤ 0 := fun z hz => by
    unfold rest at hz
    obtain ⟨m, hm, hz⟩ := List.mem_flatten.1 hz
    obtain ⟨x, hx, rfl⟩ := List.mem_map.1 hm
    obtain ⟨i, hil, rfl⟩ := List.mem_iff_getElem.1 hx
    have h1 := hp_top (good2 g) el0 l l.length hp i hil
    rw [getD_get el0 l hil] at h1
    exact g.tr _ _ _ h1 (hd_le g (hi _ hx) hz)
  refine ⟨?_, ?_, ?_⟩
  · rw [List.append_assoc]
    exact (List.Perm.append_left O hR).trans h.perm
  · unfold InO
    rw [List.pairwise_append]
    refine ⟨h.ino, List.pairwise_singleton _ _, fun x hx y hy => ?_⟩
    obtain rfl := List.mem_singleton.1 hy
    exact h.le x hx _ (hR.subset List.mem_cons_self)
  · intro x hx y hy
    have hyT := hR.subset (List.mem_cons_of_mem _ hy)
    rcases List.mem_append.1 hx with hx | hx
    · exact h.le x hx y hyT
    · obtain rfl := List.mem_singleton.1 hx
      exact top y hyT
theorem HL.conv {c : It → It → Int} {M O R R' : List It} (h : HL c M O R) (hR : R'.Perm R) : HL c M O R' :=
  ⟨(List.Perm.append_left O hR).trans h.perm, h.ino, fun y hy z hz => h.le y hy z (hR.subset hz)⟩
theorem InL.ok {D : It → Prop} {w0 : World} {v : Value} {P q : Nat} {f : Value} {c : It → It → Int} {w : World} {l : List El} (h : Mg w0 v P q f D c w l) {x : El} (hx : x.ok D (fun _ => False) w0) : x.ok D (Xo v P) w := by
  have e : ∀ o, w.cell? ⟨x.g, o, none⟩ = w0.cell? ⟨x.g, o, none⟩ := fun o => World.cell?_of_block (a := ⟨x.g, o, none⟩) (h.bl.block x.g hx.lt)
  refine ⟨Nat.lt_of_lt_of_le hx.lt h.bl.size, fun q => ?_, hx.pos, hx.le, hx.d, fun j hj => by rw [e, e, e]; exact hx.cells j hj⟩
  have := hx.lt
  rcases q with q | q
  · have := h.big.1; omega
  · have := (h.fx.v0b _ q).1; omega
theorem flat_take (Ms : List (List It)) (i : Nat) (h : i < Ms.length) : (Ms.take (i + 1)).flatten = (Ms.take i).flatten ++ Ms.getD i [] := by
  rw [List.take_succ_eq_append_getElem h, List.flatten_append, List.getD_eq_getElem?_getD, List.getElem?_eq_getElem h]
  simp
theorem flat_le (Ms : List (List It)) (i : Nat) : (Ms.take i).flatten.length ≤ Ms.flatten.length := by
  have : Ms.flatten = (Ms.take i).flatten ++ (Ms.drop i).flatten := by rw [← List.flatten_append, List.take_append_drop]
  rw [this, List.length_append]; omega

/-- what is grown aside leaves the heap of lists as it is -/
theorem El.ok.aside {D : It → Prop} {X : Nat → Prop} {w w' : World} {x : El} {n : Nat} {v8 : Value} (h : x.ok D X w) (hlt : x.g < n) (h8 : ∀ k, v8.ownBlock = some k → n ≤ k) (k : Kp (fun k => v8.ownBlock = some k) w w') : x.ok D X w' := by
  have e : ∀ o, w'.cell? ⟨x.g, o, none⟩ = w.cell? ⟨x.g, o, none⟩ := fun o => World.cell?_of_block (a := ⟨x.g, o, none⟩) (k.block x.g h.lt (fun q => by have := h8 _ q; omega))
  exact ⟨Nat.lt_of_lt_of_le h.lt k.size, h.nx, h.pos, h.le, h.d, fun j hj => by rw [e, e, e]; exact h.cells j hj⟩
theorem Mg.aside {w0 : World} {v v8 : Value} {P q : Nat} {f : Value} {D : It → Prop} {c : It → It → Int} {w w' : World} {l : List El} (h : Mg w0 v P q f D c w l) (k : Kp (fun k => v8.ownBlock = some k) w w') (h8 : ∀ k, v8.ownBlock = some k → w0.heap.size + 2 ≤ k) (ha : Ap v8 v) : Mg w0 v P q f D c w' l := by
  obtain ⟨v1, h1, h2, h3⟩ := h.sy.row
  have hb : ∀ i, i < w.heap.size → i < w0.heap.size + 2 → w'.heap[i]? = w.heap[i]? := fun i hi hl => k.block i hi (fun e => by have := h8 i e; omega)
  have hPl := (Array.getElem?_eq_some_iff.1 h1).1
  have hv1 : ∀ i, v1.ownBlock = some i → v.ownBlock = some i := fun i hi => by
    rcases h3 i hi with e | e
    · exact e
    · have := (h2.lt i hi).2; omega
  refine ⟨⟨h.fx.pb, h.fx.qb, h.fx.pq, Nat.le_trans h.fx.bw k.size, fun i hi => ⟨(h.fx.v0b i hi).1, Nat.lt_of_lt_of_le (h.fx.v0b i hi).2 k.size⟩, ?_⟩, ⟨⟨v1, (hb P hPl h.fx.pb).trans h1, own_keep h2 (fun i hi => k.block i (h2.lt i hi).2 (fun e => ha i e (hv1 i hi))), fun i hi => .inl (hv1 i hi)⟩, fun x hx => (h.sy.els x hx).aside (h.low x hx) (fun i hi => by have := h8 i hi; omega) k, Kp.refl _ _⟩, h.hp, ?_, h.big, h.ino, h.low⟩
  · have := h.fx.qb
    have := h.fx.bw
    exact (World.cell?_of_block (a := ⟨q, 0, none⟩) (hb q (by omega) h.fx.qb)).trans h.fx.box
  · exact ⟨k.os.trans h.bl.os, k.tape.trans h.bl.tape, k.output.trans h.bl.output, Nat.le_trans h.bl.size k.size, fun i hi => (hb i (Nat.lt_of_lt_of_le hi h.bl.size) (by omega)).trans (h.bl.block i hi)⟩
/-- and the other way -/
theorem Aside.row {v v' v8 : Value} {P n : Nat} {w w' : World} {B : Nat} {e : TypeId} {size : Nat} {xs : List Value} (h : Aside v v' P w w') (h8 : w.ownsRow B e size v8 n xs) (hP : P < B) (ha : Ap v8 v) : w'.ownsRow B e size v8 n xs ∧ Ap v8 v' := by
  refine ⟨own_keep h8 (fun k hk => h.1.block k (h8.lt k hk).2 (fun q => ?_)), fun k hk hk' => ?_⟩
  · rcases q with q | q
    · have := (h8.lt k hk).1; omega
    · exact ha k hk q
  · rcases h.2 k hk' with q | q
    · exact ha k hk q
    · have := (h8.lt k hk).2; omega
/-- what is left of a list without its first one -/
def El.tl (x : El) : El := ⟨x.g, x.off + 3, x.cap - 1, x.items.tail⟩
theorem El.ok.tl {D : It → Prop} {X : Nat → Prop} {w : World} {x : El} (h : x.ok D X w) (h1 : 1 < x.items.length) : x.tl.ok D X w := by
  have hl : x.tl.items.length = x.items.length - 1 := by show x.items.tail.length = _; simp
  refine ⟨h.lt, h.nx, by omega, by have := h.le; show x.tl.items.length ≤ x.cap - 1; omega, fun y hy => h.d y (List.mem_of_mem_tail hy), fun j hj => ?_⟩
  have := h.cells (j + 1) (by omega)
  have e : x.tl.items.getD j it0 = x.items.getD (j + 1) it0 := by
    show x.items.tail.getD j it0 = _
    rw [List.getD_eq_getElem?_getD, List.getD_eq_getElem?_getD, List.getElem?_tail]
  rw [e]
  show w.cell? ⟨x.g, x.off + 3 + j * 3, none⟩ = _ ∧ w.cell? ⟨x.g, x.off + 3 + j * 3 + 1, none⟩ = _ ∧ w.cell? ⟨x.g, x.off + 3 + j * 3 + 2, none⟩ = _
  rw [show x.off + 3 + j * 3 = x.off + (j + 1) * 3 by omega]
  exact this
theorem hd_tl {x : El} (h : 0 < x.items.length) : x.items = hd x :: x.tl.items := by
  show x.items = x.items.getD 0 it0 :: x.items.tail
  cases hx : x.items with
  | nil => rw [hx] at h; simp at h
  | cons y t => rfl

set_option maxRecDepth 100000 in
set_option maxHeartbeats 800000 in
theorem merge_any (Ms : List (List It)) (vs : Nat → Value) (lg n lcap : Nat) (f : Value) (c : It → It → Int) (w : World) (hG : Ky.Good c) (hC : Cmp w (fun _ => False) f c DI) (hn : Ms.length = n)
    (hrow : ∀ i, i < n → w.cell? ⟨lg, i, none⟩ = some (vs i) ∧ InL DI w (vs i) (Ms.getD i []))
    (hlg : lg < w.heap.size) (ho : ∀ m ∈ Ms, InO c m) (hl : Ms.flatten.length ≤ 65536) (hn2 : n ≤ 4611686018427387904) :
    Calls Tryz.prog 25 #[.slice (some ⟨lg, 0, none⟩) n lcap, f] w fun e w' => ∃ v, e = .returned v ∧ Hid (∃ O, w'.ownsRow w.heap.size 66 3 v O.length (its O) ∧ O.Perm Ms.flatten ∧ InO c O ∧ Below w.heap.size w w') := by
  obtain ⟨i0, hi, hz0, hz1, hz2⟩ := info_parts Tryz.infoItem
  have hta := Tryz.assertItems
  have HRW := hide hrow
  have HO := hide ho
  have CPush : Hid (∀ (W : World) (v : Value) (l : List El) (P q : Nat) (x : El), Mg w v P q f DI c W l → x.ok DI (Xo v P) W → InO c x.items → x.g < w.heap.size → l.length < 65536 → Calls Tryz.prog 79 #[.iface 81 (.pointer (some ⟨P, 0, none⟩)), .iface 61 (ev x)] W fun e w' => e = .returned (.tuple #[]) ∧ Hid (∃ v' l', Mg w v' P q f DI c w' l' ∧ l'.Perm (x :: l) ∧ Aside v v' P W w')) := fun W v l P q x h hx hxo hxl h2 => push_mg hG hC h x hx hxo hxl h2
  have CPop : Hid (∀ (W : World) (v : Value) (l : List El) (P q : Nat), Mg w v P q f DI c W l → 0 < l.length → l.length ≤ 65536 → Calls Tryz.prog 81 #[.iface 81 (.pointer (some ⟨P, 0, none⟩))] W fun e w' => e = .returned (.iface 61 (ev (l.getD 0 el0))) ∧ Hid (∃ v' l', Mg w v' P q f DI c w' l' ∧ (l.getD 0 el0 :: l').Perm l ∧ Aside v v' P W w' ∧ (l.getD 0 el0).ok DI (Xo v' P) w')) := fun W v l P q h h0 h2 => pop_mg hG hC h h0 h2
  have HG := hide hG
  obtain ⟨q, hq⟩ : ∃ q, q = w.heap.size := ⟨_, rfl⟩
  obtain ⟨P, hP⟩ : ∃ P, P = w.heap.size + 1 := ⟨_, rfl⟩
  have HST : Hid (Mg w (.slice none 0 0) P q f DI c ((w.alloc (.cells #[f] 67)).alloc (.cells #[.slice none 0 0, byFirst q] 84)) []) := by
    have hb : Below w.heap.size w ((w.alloc (.cells #[f] 67)).alloc (.cells #[.slice none 0 0, byFirst q] 84)) := ((Below.refl _ _).alloc (Nat.le_refl _) _).alloc (by simp) _
    refine ⟨⟨by omega, by omega, by omega, by simp, fun k hk => by simp [Value.ownBlock] at hk, ?_⟩, ⟨⟨_, ?_, World.ownsRow_nil _ _ _ _, fun k hk => by simp [Value.ownBlock] at hk⟩, fun x hx => absurd hx List.not_mem_nil, Kp.refl _ _⟩, ?_, hb, ⟨by omega, by omega⟩, fun x hx => absurd hx List.not_mem_nil, fun x hx => absurd hx List.not_mem_nil⟩
    · subst hq
      simp
    · have := heap_alloc_new (w.alloc (.cells #[f] 67)) (.cells #[.slice none 0 0, byFirst q] 84)
      rw [show (w.alloc (.cells #[f] 67)).heap.size = P by simp [hP]] at this
      exact this
    · intro _ _ _ _ hk; exact absurd hk (Nat.not_lt_zero _)
  have hfc : ∃ id cp, f = .func (.func id) #[] cp := by obtain ⟨id, cp, e, _⟩ := hC; exact ⟨id, cp, e⟩
  obtain ⟨id, cp, rfl⟩ := hfc
  clear hrow ho hC hG
  unfold byFirst at HST
  go_enter Tryz.func25, Tryz.ntmps25
  go_wp2_with fail
  rw [← hP, ← hq]
  generalize (w.alloc (.cells #[.func (.func id) #[] cp] 67)).alloc (.cells #[.slice none 0 0, .func (.func 78) #[] #[.pointer (some ⟨q, 0, none⟩)]] 84) = w1 at *
  clear hP hq
  go_loopw [7, 15] (fun _ v15 wr => ∃ (i : Nat) (l : List El) (v : Value), i ≤ n ∧ v15 = .int .i64 (i : Int) ∧ Hid (Mg w v P q (.func (.func id) #[] cp) DI c wr l) ∧ Hid ((rest l).Perm (Ms.take i).flatten)) (fun _ v15 _ => n - (intOf v15).toNat)
  case atStart => exact ⟨0, [], _, Nat.zero_le _, rfl, HST, .refl _⟩
  case round =>
    clear HST
    obtain ⟨i, l, v, hin, rfl, hM, hR⟩ := hrel
    by_cases hlt : i < n
    · obtain ⟨hc0, hcI⟩ := unhide HRW i hlt
      have hc := ((unhide hM).bl.cell (p := ⟨lg, i, none⟩) hlg).trans hc0
      have hft := flat_take Ms i (by omega)
      have hoi : InO c (Ms.getD i []) := unhide HO _ (by rw [List.getD_eq_getElem?_getD, List.getElem?_eq_getElem (by omega)]; exact List.getElem_mem _)
      have hfl := flat_le Ms (i + 1)
      clear hc0
      rcases hcI with ⟨hm, p, cq, hv⟩ | ⟨x, hv, hm, hx⟩
      · rw [hv] at hc
        have hR2 : Hid ((rest l).Perm (Ms.take (i + 1)).flatten) := by
          show List.Perm _ _
          rw [hft, hm, List.append_nil]; exact unhide hR
        clear hft hoi hfl hm hv hR
        go_wp2_with fail
        go_roundw
        case rel => exact ⟨i + 1, l, v, by omega, by go_num, hM, hR2⟩
        case measure => simp [intOf]; omega
      · rw [hv] at hc
        have hxp := hx.pos
        have hxok := hide (InL.ok (unhide hM) hx)
        rw [hft, ← hm, List.length_append, ← (unhide hR).length_eq] at hfl
        have hll := rest_len (l := l) (fun y hy => ((unhide hM).sy.els y hy).pos)
        have hl2 : l.length < 65536 := by omega
        have hR2 : Hid (∀ l' : List El, l'.Perm (x :: l) → (rest l').Perm (Ms.take (i + 1)).flatten) := fun l' h' => by
          refine (rest_perm h').trans ?_
          rw [rest_cons, hft, ← hm]
          exact (List.Perm.append_left _ (unhide hR)).trans List.perm_append_comm
        have CP := hide (unhide CPush wr v l P q x (unhide hM) (unhide hxok) (by rw [hm]; exact hoi) hx.lt hl2)
        clear hft hoi hfl hm hv hR hx hxok hll hl2 hM
        unfold ev at hc CP
        obtain ⟨xg, xo, xc, xl⟩ := x
        simp only at hc CP hxp
        obtain ⟨xn, hxn⟩ : ∃ xn, xn = xl.length := ⟨_, rfl⟩
        rw [← hxn] at hc CP hxp
        clear hxn
        have hxp' : (0 : Int) < (xn : Int) := by omega
        go_wp2_with fail
        refine (unhide CP).mono ?_
        rintro e w2 ⟨rfl, r⟩
        obtain ⟨v', l', r1, r2, r3⟩ := unhide r
        have hM2 := hide r1
        have hR3 := hide (unhide hR2 l' r2)
        clear r r1 r2 r3 CP hR2
        go_wp2_with fail
        go_roundw
        case rel => exact ⟨i + 1, l', v', by omega, by go_num, hM2, hR3⟩
        case measure => simp [intOf]; omega
    · obtain rfl : i = n := by omega
      have hH : Hid (HL c Ms.flatten [] (rest l)) := by
        have h := unhide hR
        rw [List.take_of_length_le (by omega)] at h
        exact ⟨h, .nil, by simp⟩
      clear hR hlt hin HRW HO
      have hRl : (rest l).length = Ms.flatten.length := by simpa using (unhide hH).perm.length_eq
      go_wp2_with fail
      go_loopg [8, 9] (rest l).length (fun gm v8 _ wx => ∃ (l : List El) (O : List It) (v : Value), gm = (rest l).length ∧ O.length + gm ≤ 65536 ∧ Hid (Mg w v P q (.func (.func id) #[] cp) DI c wx l) ∧ Hid (HL c Ms.flatten O (rest l)) ∧ Hid (wx.ownsRow (w.heap.size + 2) 66 3 v8 O.length (its O)) ∧ Hid (Ap v8 v))
      case atStart => exact ⟨l, [], v, rfl, by simp; omega, hM, hH, World.ownsRow_nil _ _ _ _, ap_nil _⟩
      case round =>
        clear hM hH hRl
        obtain ⟨l, O, v, rfl, hOl, hM, hH, hO, hAp⟩ := hrel
        obtain ⟨s0, s1, s2, hv8⟩ := sl_of_own (unhide hO)
        subst hv8
        have CL := hide (len2_any wr l (unhide hM).sy)
        have hll := rest_len (l := l) (fun y hy => ((unhide hM).sy.els y hy).pos)
        by_cases h0 : l.length = 0
        · have hE : Hid (∃ O, wr.ownsRow w.heap.size 66 3 (.slice s0 s1 s2) O.length (its O) ∧ O.Perm Ms.flatten ∧ InO c O ∧ Below w.heap.size w wr) := by
            have e : l = [] := List.eq_nil_of_length_eq_zero h0
            have h := unhide hH
            rw [e] at h
            refine ⟨O, ?_, by simpa [rest] using h.perm, h.ino, (unhide hM).bl⟩
            have h5 := unhide hO
            refine ⟨h5.1, ?_⟩
            rcases h5.2 with hn | ⟨g, cap, cur, hv, hg, rs⟩
            · exact .inl hn
            · exact .inr ⟨g, cap, cur, hv, by omega, rs⟩
          rw [h0] at CL
          clear hM hH hO hAp CPop CPush hll h0
          go_wp2_with fail
          refine (unhide CL).mono ?_
          rintro e w3 ⟨rfl, hw3⟩
          rw [hw3]
          clear hw3 CL
          go_wp2_with fail
          go_ret
          exact ⟨_, rfl, unhide hE⟩
        · have h0' : (0 : Int) < (l.length : Int) := by omega
          have hl0 : 0 < l.length := by omega
          have CP := hide (unhide CPop wr v l P q (unhide hM) hl0 (by omega))
          go_wp2_with fail
          refine (unhide CL).mono ?_
          rintro e w3 ⟨rfl, hw3⟩
          rw [hw3]
          clear hw3 CL
          have HST : Hid (∀ R' : List It, (hd (l.getD 0 el0) :: R').Perm (rest l) → HL c Ms.flatten (O ++ [hd (l.getD 0 el0)]) R') := fun R' hR => (unhide hH).step (unhide HG) (unhide hM).hp (unhide hM).ino hR
          have hlow := hide ((unhide hM).low _ (el_mem hl0))
          have hxo := hide ((unhide hM).ino _ (el_mem hl0))
          have hPB := (unhide hM).fx.pb
          clear hM hH
          obtain ⟨x, hx⟩ : ∃ x, x = l.getD 0 el0 := ⟨_, rfl⟩
          rw [← hx] at CP HST hlow hxo
          clear hx
          have HEV : Hid (ev x = .slice (some ⟨x.g, x.off, none⟩) x.items.length x.cap) := rfl
          rw [unhide HEV] at CP
          go_wp2_with fail
          refine (unhide CP).mono ?_
          rintro e w4 ⟨rfl, r⟩
          obtain ⟨v4, l4, m4, p4, a4, ok4⟩ := unhide r
          obtain ⟨o4, ap4⟩ := a4.row (unhide hO) hPB (unhide hAp)
          have hrp : Hid ((hd x :: (x.tl.items ++ rest l4)).Perm (rest l)) := by
            have h := rest_perm p4
            rw [rest_cons, hd_tl ok4.pos] at h
            exact h
          have hrl := (unhide hrp).length_eq
          rw [List.length_cons, List.length_append] at hrl
          have hxl : x.tl.items.length + 1 = x.items.length := by have := congrArg List.length (hd_tl ok4.pos); simpa using this.symm
          obtain ⟨f0, f1, f2⟩ := ok4.first
          have M4 := hide m4
          have O4 := hide o4
          have A4 := hide ap4
          have K4 := hide ok4
          have hxp := ok4.pos
          have hxc := ok4.le
          have hH4 := hide (unhide HST _ (unhide hrp))
          have hbw := m4.fx.bw
          clear r m4 p4 a4 o4 ap4 ok4 CP hO hAp HST hrp
          have HD : Hid (hd x = ⟨(hd x).line, (hd x).key, (hd x).place⟩) := rfl
          generalize hxk : (hd x).key = xk at *
          generalize hxl2 : (hd x).line = xl at *
          generalize hxp2 : (hd x).place = xp at *
          clear hxk hxl2 hxp2
          go_wp2_with (at_builtin; refine wpList_append_own_at _ rfl _ _ 61 rfl (w.heap.size + 2) 66 i0 _ 3 40 Tryz.underlying61 hi hz0 hz1 hz2 rfl (by decide) _ _ _ rfl ((unhide O4).alloc _) ⟨w4.heap.size, 0, none⟩ 1 1 [.string xl, .string xk, .int .i64 xp] rfl rfl (three_new _ _ _ _ _) (three_one _ _ _) (by unfold maxLen; omega) (by omega) (by simp; omega) ?_)
          intro v5 w5 hO5 hg5 _ hloc
          have k5 : Kp (fun k => (Value.slice s0 s1 s2).ownBlock = some k) w4 w5 := ⟨hg5.os, hg5.tape, hg5.output, Nat.le_trans (by simp) hg5.size, fun k hk hn => (hg5.block k (by simp; omega) (fun e => hn e.symm)).trans (Below.heap_alloc _ _ _ hk)⟩
          have h8 : ∀ k, (Value.slice s0 s1 s2).ownBlock = some k → w.heap.size + 2 ≤ k := fun k hk => ((unhide O4).lt k hk).1
          have M5 := hide ((unhide M4).aside k5 h8 (unhide A4))
          have K5 := hide ((unhide K4).aside (unhide hlow) (fun k hk => by have := h8 k hk; omega) k5)
          have A5 : Hid (Ap v5 v4) := fun k hk hk' => by
            rcases hloc with e | e
            · exact unhide A4 k (e.symm.trans hk) hk'
            · rw [hk] at e
              have h1 := Option.some.inj e
              have h2 := ((unhide M4).fx.v0b k hk').2
              have h3 : w4.heap.size ≤ k := by rw [h1]; simp
              omega
          have O5 : Hid (w5.ownsRow (w.heap.size + 2) 66 3 v5 (O ++ [hd x]).length (its (O ++ [hd x]))) := by
            show w5.ownsRow _ _ _ _ _ _
            rw [its_app, List.length_append, unhide HD]
            exact hO5
          have hOl5 : (O ++ [hd x]).length = O.length + 1 := by simp
          obtain ⟨z0, z1, z2, hv5⟩ := sl_of_own hO5
          subst hv5
          clear hO5 hg5 hloc k5 h8 M4 K4 A4 O4 HD f0 f1 f2
          by_cases h1 : 1 < x.items.length
          · have h1' : (1 : Int) < (x.items.length : Int) := by omega
            have hl4 : l4.length < 65536 := by
              have := rest_len (l := l4) (fun y hy => ((unhide M5).sy.els y hy).pos)
              omega
            have CQ := hide (unhide CPush w5 v4 l4 P q x.tl (unhide M5) ((unhide K5).tl h1) (by
              have h := unhide hxo
              rw [hd_tl hxp] at h
              exact (List.pairwise_cons.1 h).2) (unhide hlow) hl4)
            have HEV2 : Hid (ev x.tl = .slice (some ⟨x.g, x.off + 3, none⟩) (x.items.length - 1) (x.cap - 1)) := by
              show Value.slice _ x.tl.items.length _ = _
              rw [show x.tl.items.length = x.items.length - 1 by omega]
              rfl
            rw [unhide HEV2] at CQ
            clear M5 K5 hl4 HEV HEV2
            go_wp2_with fail
            refine (unhide CQ).mono ?_
            rintro e w6 ⟨rfl, r⟩
            obtain ⟨v6, l6, m6, p6, a6⟩ := unhide r
            obtain ⟨o6, ap6⟩ := a6.row (unhide O5) hPB (unhide A5)
            have hp6 := rest_perm p6
            rw [rest_cons] at hp6
            have hH6 := hide ((unhide hH4).conv hp6)
            have hl6 := hp6.length_eq
            rw [List.length_append] at hl6
            have M6 := hide m6
            have O6 := hide o6
            have A6 := hide ap6
            clear r m6 p6 a6 o6 ap6 CQ O5 A5 hH4 hp6
            go_wp2_with fail
            go_roundg (rest l6).length
            case measure => omega
            case rel => exact ⟨l6, _, v6, rfl, by omega, M6, hH6, O6, A6⟩
          · have h1' : ¬ (1 : Int) < (x.items.length : Int) := by omega
            have e1 : x.tl.items = [] := List.eq_nil_of_length_eq_zero (by omega)
            rw [e1, List.nil_append] at hH4
            rw [e1] at hrl
            clear K5 HEV
            go_wp2_with fail
            go_roundg (rest l4).length
            case measure => simp at hrl; omega
            case rel => exact ⟨l4, _, v4, rfl, by simp at hrl; omega, M5, hH4, O5, A5⟩
end Go.Proofs.YtmpppdbomdepoaaGreatDoor.So

/- What Merge of the program answers. -/
namespace Go.Proofs.YtmpppdbomdepoaaGreatDoor.So
open Go.RowKit Go.Shelf Ky
open Pa (Tx)

attribute [local go_sem] Oper.semAt_some

theorem check_negM (o : Ky.Ord) (u : Bool) : ∀ l : Ls, checkL o u l = -1 ∨ 0 ≤ checkL o u l
  | [] => .inl rfl
  | a :: l => by
    show (if okO o = false then -1 else badAt o u 1 a l) = -1 ∨ 0 ≤ (if okO o = false then -1 else badAt o u 1 a l)
    split
    · exact .inl rfl
    · rcases badAt_lo o u 1 a l with h | h
      · exact .inl h
      · exact .inr (by omega)
theorem items_ino (o : Ky.Ord) (hok : okO o = true) (A : Ls) (h : checkL o false A = -1) : InO (Ky.lex (cmpK o) (cmpY o)) (itemsL o A) := by
  have h1 := (check_in o hok A).1 h
  unfold InO at h1 ⊢
  rw [← itemsL_lines o A, List.pairwise_map] at h1
  refine List.Pairwise.imp_of_mem ?_ h1
  intro x y hx hy hxy
  rw [cmpS_is o hok x y (itemsL_keyed o A x hx) (itemsL_keyed o A y hy)]
  exact hxy
theorem merged_is (o : Ky.Ord) (h : okO o = true) (As : List Ls) (S : List It) (p : S.Perm (As.map (itemsL o)).flatten) (i : InO (Ky.lex (cmpK o) (cmpY o)) S) : S.map It.line = sortL o false As.flatten := by
  have hk : ∀ x ∈ S, Keyed o x := fun x hx => by
    obtain ⟨m, hm, hxm⟩ := List.mem_flatten.1 (p.subset hx)
    obtain ⟨A, _, rfl⟩ := List.mem_map.1 hm
    exact itemsL_keyed o A x hxm
  refine sort_is o As.flatten _ ?_ (inO_map It.line i (fun x hx y hy => (cmpS_is o h x y (hk x hx) (hk y hy)).symm))
  have h1 := p.map It.line
  have e : ((As.map (itemsL o)).flatten).map It.line = As.flatten := by
    rw [List.map_flatten, List.map_map]
    congr 1
    rw [show (List.map It.line ∘ itemsL o) = id from funext (fun A => itemsL_lines o A)]
    simp
  rwa [e] at h1
theorem flat_items (o : Ky.Ord) (As : List Ls) : (As.map (itemsL o)).flatten.length = As.flatten.length := by
  rw [List.length_flatten, List.length_flatten, List.map_map]
  congr 1
  apply List.map_congr_left
  intro A _
  exact itemsL_len o A

/-- lists of items in memory -/
def LI (o : Ky.Ord) (As : List Ls) (G n : Nat) (W : World) : Prop := G < W.heap.size ∧ ∀ j, j < n → ∃ g, W.cell? ⟨G, j, none⟩ = some (.slice (some ⟨g, 0, none⟩) (As.getD j []).length (As.getD j []).length) ∧ Row3 g (As.getD j []).length W (itemsL o (As.getD j []))
theorem LI.step {o : Ky.Ord} {As : List Ls} {G n : Nat} {W W' : World} (h : LI o As G n W) (b : Below W.heap.size W W') : LI o As G n W' :=
  ⟨Nat.lt_of_lt_of_le h.1 b.size, fun j hj => by
    obtain ⟨g, h1, h2⟩ := h.2 j hj
    exact ⟨g, (b.cell (p := ⟨G, j, none⟩) h.1).trans h1, h2.keep (b.block _ h2.lt)⟩⟩
theorem LI.inl {o : Ky.Ord} {As : List Ls} {G n : Nat} {W : World} (h : LI o As G n W) (hs : ∀ A ∈ As, ∀ s ∈ A, s.size ≤ 1073741000) (hn : As.length = n) (j : Nat) (hj : j < n) : ∃ v, W.cell? ⟨G, j, none⟩ = some v ∧ InL DI W v ((As.map (itemsL o)).getD j []) := by
  obtain ⟨g, h1, h2⟩ := h.2 j hj
  have e : (As.map (itemsL o)).getD j [] = itemsL o (As.getD j []) := by
    rw [List.getD_eq_getElem?_getD, List.getD_eq_getElem?_getD, List.getElem?_map, List.getElem?_eq_getElem (by omega)]; rfl
  refine ⟨_, h1, ?_⟩
  rw [e]
  have hl := itemsL_len o (As.getD j [])
  have hmem : As.getD j [] ∈ As := by rw [List.getD_eq_getElem?_getD, List.getElem?_eq_getElem (by omega)]; exact List.getElem_mem _
  rcases Nat.eq_zero_or_pos (As.getD j []).length with h0 | h0
  · exact .inl ⟨List.eq_nil_of_length_eq_zero (by omega), _, _, by rw [h0]⟩
  · refine .inr ⟨⟨g, 0, (As.getD j []).length, itemsL o (As.getD j [])⟩, by unfold ev; rw [hl], rfl, ⟨h2.lt, fun q => q, by show 0 < (itemsL o _).length; omega, by show (itemsL o _).length ≤ (As.getD j []).length; omega, fun y hy => ?_, fun k hk => ?_⟩⟩
    · obtain ⟨i, hi, rfl⟩ := itemsL_mem o _ y hy
      exact itf_di o _ i (hs _ hmem _ (mem_at hi))
    · have := h2.cells hk
      simpa using this

set_option maxRecDepth 100000 in
set_option maxHeartbeats 400000 in
theorem linesOf_none (w : World) :
    Calls Tryz.prog 24 #[.slice none 0 0] w fun e w' => ∃ v, e = .returned v ∧ w'.ownsRow w.heap.size 9 1 v 0 (strs []) ∧ Below w.heap.size w w' := by
  obtain ⟨i0, hi, hz0, hz1, hz2⟩ := info_parts Pa.Tryz.infoStr
  go_enter Tryz.func24, Tryz.ntmps24
  go_wp2_with (at_make; refine wpList_make_full _ rfl _ _ 25 rfl w.heap.size 9 i0 _ 1 Tryz.underlying25 hi hz0 hz1 _ _ _ _ 0 rfl rfl rfl rfl (by rw [hz2]; omega) (by unfold maxLen; omega) (Nat.le_refl _) ?_; intro w1 hown1 hgrow1)
  have hb : Hid (Below w.heap.size w w1) := (Below.refl _ _).grown hgrow1 (Nat.le_refl _) (by simp)
  have hO : Hid (w1.ownsRow w.heap.size 9 1 (.slice (some ⟨w.heap.size, 0, none⟩) 0 0) 0 (strs [])) := by
    have e := List.eq_nil_of_length_eq_zero hown1.1
    rw [e] at hown1
    exact hown1
  clear hown1 hgrow1
  go_loopw [11] (fun v wr => v = .int .i64 0 ∧ wr = w1) (fun _ _ => 0)
  case atStart => exact ⟨rfl, rfl⟩
  case round =>
    obtain ⟨rfl, rfl⟩ := hrel
    go_wp2_with fail
    go_ret
    exact ⟨_, rfl, unhide hO, unhide hb⟩
theorem linesOf_own (L : List It) (B : Nat) (v : Value) (w : World) (h : w.ownsRow B 66 3 v L.length (its L)) (hl : L.length ≤ 65536) :
    Calls Tryz.prog 24 #[v] w fun e w' => ∃ v, e = .returned v ∧ w'.ownsRow w.heap.size 9 1 v L.length (strs (L.map It.line)) ∧ Below w.heap.size w w' := by
  rcases h.2 with ⟨rfl, h0⟩ | ⟨g, cap, cur, rfl, _⟩
  · obtain rfl : L = [] := List.eq_nil_of_length_eq_zero h0
    exact linesOf_none w
  · exact linesOf_any L g cap w (row3_own h) hl

theorem Tryz.infoItems2 : (Tryz.prog.info? 61).map (fun i => (i.zero, i.size, i.bytes)) = some (some (.slice none 0 0), 1, 24) := by kernel_rfl
theorem flat_takeL (As : List Ls) (i : Nat) (h : i < As.length) : (As.take (i + 1)).flatten.length = (As.take i).flatten.length + (As.getD i []).length := by
  rw [List.take_succ_eq_append_getElem h, List.flatten_append, List.getD_eq_getElem?_getD, List.getElem?_eq_getElem h]
  simp
theorem flat_leL (As : List Ls) (i : Nat) : (As.take i).flatten.length ≤ As.flatten.length := by
  have : As.flatten = (As.take i).flatten ++ (As.drop i).flatten := by rw [← List.flatten_append, List.take_append_drop]
  rw [this, List.length_append]; omega
theorem get_mem {As : List Ls} {i : Nat} (h : i < As.length) : As.getD i [] ∈ As := by rw [List.getD_eq_getElem?_getD, List.getElem?_eq_getElem h]; exact List.getElem_mem _

set_option maxRecDepth 100000 in
set_option maxHeartbeats 800000 in
theorem pmerge_any : MergeSays := by
  intro o As a n cap w hLL hn hfl hs
  obtain ⟨hAl, hcells⟩ := hLL
  obtain ⟨j0, hi, hz0, hz1, hz2⟩ := info_parts Tryz.infoItems2
  have CK := hide (fun W => check_any o W)
  unfold ov at CK
  have H0 : Hid (Hd w o (w.alloc (.cells #[.bool o.num, .bool o.fold, .bool o.bls, .bool o.rev, .int .i64 o.fr, .int .i64 o.«to», .int .u8 (o.sep.toNat : Int)] 23))) := Hd.new w o
  have hnil : Hid (∀ W : World, W.ownsRow w.heap.size 9 1 (.slice none 0 0) ([] : Ls).length (strs [])) := fun W => World.ownsRow_nil _ _ _ _
  cases hok : okO o
  · have hE : mergeE o As = 1 := by unfold mergeE; rw [if_pos hok]
    have hA : mergeA o As = [] := by unfold mergeA; rw [hE]; rfl
    rw [hA, hE]
    rw [hok] at CK
    clear hok hE hA
    unfold ov
    go_enter Tryz.func7, Tryz.ntmps7
    go_wp2_with fail
    refine (unhide CK _).mono ?_
    rintro e w1 ⟨rfl, b1⟩
    have H1 := hide ((unhide H0).step b1)
    clear b1 H0 CK
    go_wp2_with fail
    go_ret2
    exact ⟨_, rfl, unhide hnil _, (unhide H1).2⟩
  · rw [hok] at CK
    have HOK := hide hok
    have HC := hide hcells
    have CC : Hid (∀ W A b lb cb, Tx W b lb cb A → A ∈ As → Calls Tryz.prog 22 #[.agg #[.bool o.num, .bool o.fold, .bool o.bls, .bool o.rev, .int .i64 o.fr, .int .i64 o.«to», .int .u8 (o.sep.toNat : Int)], .slice b lb cb, .bool false] W fun e w' => e = .returned (.int .i64 (checkL o false A)) ∧ Below W.heap.size W w') := fun W A b lb cb h hA => check_anyS o false A b lb cb W h (by
      have h1 := h.len
      obtain ⟨k, hk, rfl⟩ := List.mem_iff_getElem.1 hA
      have h2 := flat_takeL As k hk
      have h3 := flat_leL As (k + 1)
      rw [List.getD_eq_getElem?_getD, List.getElem?_eq_getElem hk, Option.getD_some] at h2
      omega) (hs A hA)
    have CI : Hid (∀ W A b lb cb, Tx W b lb cb A → A ∈ As → lb ≤ 65536 → Calls Tryz.prog 23 #[.agg #[.bool o.num, .bool o.fold, .bool o.bls, .bool o.rev, .int .i64 o.fr, .int .i64 o.«to», .int .u8 (o.sep.toNat : Int)], .slice b lb cb] W fun e w' => ∃ g, e = .returned (.slice (some ⟨g, 0, none⟩) lb lb) ∧ Hid (Row3 g lb w' (itemsL o A) ∧ W.heap.size ≤ g ∧ Below W.heap.size W w')) := fun W A b lb cb h hA hl => itemsOf_any o A b lb cb W h hl (hs A hA)
    have HS := hide hs
    clear hok hcells hs
    unfold ov
    go_enter Tryz.func7, Tryz.ntmps7
    go_wp2_with fail
    refine (unhide CK _).mono ?_
    rintro e w1 ⟨rfl, b1⟩
    have H1 := hide ((unhide H0).step b1)
    clear b1 H0 CK
    go_wp2_with fail
    go_loopw [6, 8, 17] (fun v6 _ v17 wr => ∃ (i t : Nat), i ≤ n ∧ v17 = .int .i64 (i : Int) ∧ v6 = .int .i64 (t : Int) ∧ t ≤ 4611686018427387904 ∧ Hid (t = (As.take i).flatten.length) ∧ Hid (∀ j, j < i → checkL o false (As.getD j []) = -1) ∧ Hid (Hd w o wr)) (fun _ _ v17 _ => n - (intOf v17).toNat)
    case atStart => exact ⟨0, 0, Nat.zero_le _, rfl, rfl, by omega, by simp [Hid], (fun j hj => absurd hj (Nat.not_lt_zero _)), H1⟩
    case round =>
      clear H1
      obtain ⟨i, t, hin, rfl, rfl, htl, ht, hck, hH⟩ := hrel
      by_cases hlt : i < n
      · obtain ⟨g, off, ea, hg, hce⟩ := (unhide HC).resolve_left (by omega)
        subst ea
        obtain ⟨b, lb, cb, c0, hT, hcb⟩ := hce i hlt
        have c1 := ((unhide hH).2.cell (p := ⟨g, off + i, none⟩) hg).trans c0
        have hmem := get_mem (As := As) (i := i) (by omega)
        have hT1 := hT.below (unhide hH).2
        have hlb := hT.len
        have hft := flat_takeL As i (by omega)
        have hfe := flat_leL As (i + 1)
        rw [hft, ← unhide ht] at hfe
        have C := hide (unhide CC)
        have hcn := check_negM o false (As.getD i [])
        obtain ⟨q0, q1, q2, q3, q4, q5, q6⟩ := (unhide hH).1.cells
        have C2 := hide (unhide CC)
        have HT1 : Hid (∀ W, Below wr.heap.size wr W → Tx W b lb cb (As.getD i [])) := fun W hW => hT1.below hW
        have C3 : Hid (Calls Tryz.prog 22 #[.agg #[.bool o.num, .bool o.fold, .bool o.bls, .bool o.rev, .int .i64 o.fr, .int .i64 o.«to», .int .u8 (o.sep.toNat : Int)], .slice b lb cb, .bool false] wr fun e w' => e = .returned (.int .i64 (checkL o false (As.getD i []))) ∧ Below wr.heap.size wr w') := unhide CC wr _ b lb cb hT1 hmem
        have hR : Hid (t + lb = (As.take (i + 1)).flatten.length) := by show _ = _; rw [hft, ← unhide ht, hlb]
        have htl2 : t + lb ≤ 4611686018427387904 := by omega
        obtain ⟨ck, hckk⟩ : ∃ ck, ck = checkL o false (As.getD i []) := ⟨_, rfl⟩
        rw [← hckk] at C3 hcn
        have HCK := hide hckk
        clear hckk c0 hT hT1 hce hft hfe C C2 hmem HT1 hlb
        rcases hcn with hcn | hcn
        · subst hcn
          go_wp2_with fail
          refine (unhide C3).mono ?_
          rintro e w2 ⟨rfl, b2⟩
          have H2 := hide ((unhide hH).step b2)
          have hck2 : Hid (∀ j, j < i + 1 → checkL o false (As.getD j []) = -1) := fun j hj => by
            rcases Nat.lt_or_ge j i with h | h
            · exact unhide hck j h
            · obtain rfl : j = i := by omega
              exact (unhide HCK).symm
          clear b2 hH hck C3 HCK ht q0 q1 q2 q3 q4 q5 q6 c1
          go_wp2_with fail
          go_roundw
          case rel => exact ⟨i + 1, t + lb, by omega, by go_num, by go_num, htl2, hR, hck2, H2⟩
          case measure => simp [intOf]; omega
        · have hE : Hid (mergeE o As = 1 ∧ mergeA o As = []) := by
            have e1 : mergeE o As = 1 := by
              unfold mergeE
              rw [if_neg (by rw [unhide HOK]; simp), if_pos]
              rw [List.any_eq_true]
              refine ⟨As.getD i [], get_mem (by omega), ?_⟩
              rw [← unhide HCK]
              simp
              omega
            exact ⟨e1, by unfold mergeA; rw [e1]; rfl⟩
          clear HCK
          go_wp2_with fail
          refine (unhide C3).mono ?_
          rintro e w2 ⟨rfl, b2⟩
          have H2 := hide ((unhide hH).step b2)
          clear b2 hH hck C3 ht q0 q1 q2 q3 q4 q5 q6 c1
          go_wp2_with fail
          go_ret2
          exact ⟨_, by rw [(unhide hE).1]; rfl, by rw [(unhide hE).2]; exact unhide hnil _, (unhide H2).2⟩
      · obtain rfl : i = n := by omega
        have hte : t = As.flatten.length := by
          have h := unhide ht
          rw [List.take_of_length_le (by omega)] at h
          exact h
        have hany : Hid (As.any (fun A => decide (¬ checkL o false A = -1)) = false) := by
          show _ = _
          rw [List.any_eq_false]
          intro A hA
          obtain ⟨k, hk, rfl⟩ := List.mem_iff_getElem.1 hA
          have := unhide hck k (by omega)
          rw [List.getD_eq_getElem?_getD, List.getElem?_eq_getElem hk] at this
          simpa using this
        have HTE := hide hte
        clear hlt hin ht htl CC hte
        by_cases hbig : 65536 < t
        · have hbig' : (65536 : Int) < (t : Int) := by omega
          have hE : Hid (mergeE o As = 3 ∧ mergeA o As = []) := by
            have e1 : mergeE o As = 3 := by
              unfold mergeE
              rw [if_neg (by rw [unhide HOK]; simp), unhide hany, if_neg (by simp), if_pos (by have := unhide HTE; omega)]
            exact ⟨e1, by unfold mergeA; rw [e1]; rfl⟩
          go_wp2_with fail
          go_ret2
          exact ⟨_, by rw [(unhide hE).1]; rfl, by rw [(unhide hE).2]; exact unhide hnil _, (unhide hH).2⟩
        · have hE : Hid (mergeE o As = 0 ∧ mergeA o As = sortL o false As.flatten) := by
            have e1 : mergeE o As = 0 := by
              unfold mergeE
              rw [if_neg (by rw [unhide HOK]; simp), unhide hany, if_neg (by simp), if_neg (by have := unhide HTE; omega)]
            exact ⟨e1, by unfold mergeA; rw [e1]; rfl⟩
          clear hany
          have hsm : ¬ (65536 : Int) < (t : Int) := by omega
          go_wp2_with (at_make; refine wpList_make_full _ rfl _ _ 60 rfl (w.heap.size + 1) 61 j0 _ 1 Tryz.underlying60 hi hz0 hz1 _ _ _ _ i rfl rfl rfl rfl (by rw [hz2]; omega) (by unfold maxLen; omega) (by have := (unhide hH).1.lt; omega) ?_; intro w3 hown3 hgrow3)
          obtain ⟨G, hG⟩ : ∃ G, G = wr.heap.size := ⟨_, rfl⟩
          rw [← hG] at hown3 ⊢
          have H3 : Hid (Hd w o w3) := (unhide hH).step ((Below.refl _ _).grown hgrow3 (Nat.le_refl _) (by simp))
          have hwG : w.heap.size < G := by rw [hG]; exact (unhide hH).1.lt
          have L3 : Hid (∃ xs, w3.ownsRow (w.heap.size + 1) 61 1 (.slice (some ⟨G, 0, none⟩) i i) i xs ∧ ∀ k, k < 0 → ∃ g, xs[k]? = some (.slice (some ⟨g, 0, none⟩) (As.getD k []).length (As.getD k []).length) ∧ Row3 g (As.getD k []).length w3 (itemsL o (As.getD k [])) ∧ g ≠ G) := ⟨_, hown3, fun k hk => absurd hk (Nat.not_lt_zero _)⟩
          clear hown3 hgrow3 hH hG
          go_wp2_with fail
          go_loopw [10, 11, 37] (fun _ _ v37 wx => ∃ j : Nat, j ≤ i ∧ v37 = .int .i64 (j : Int) ∧ Hid (Hd w o wx) ∧ Hid (∃ xs, wx.ownsRow (w.heap.size + 1) 61 1 (.slice (some ⟨G, 0, none⟩) i i) i xs ∧ ∀ k, k < j → ∃ g, xs[k]? = some (.slice (some ⟨g, 0, none⟩) (As.getD k []).length (As.getD k []).length) ∧ Row3 g (As.getD k []).length wx (itemsL o (As.getD k [])) ∧ g ≠ G)) (fun _ _ v37 _ => i - (intOf v37).toNat)
          case atStart => exact ⟨0, Nat.zero_le _, rfl, H3, L3⟩
          case round =>
            clear H3 L3
            obtain ⟨j, hji, rfl, hH, hL⟩ := hrel
            by_cases hlt : j < i
            · obtain ⟨g, off, ea, hg, hce⟩ := (unhide HC).resolve_left (by omega)
              subst ea
              obtain ⟨b, lb, cb, c0, hT, hcb⟩ := hce j hlt
              have c1 := ((unhide hH).2.cell (p := ⟨g, off + j, none⟩) hg).trans c0
              have hT1 := hT.below (unhide hH).2
              have hlb := hT.len
              have hft := flat_takeL As j (by omega)
              have hfe := flat_leL As (j + 1)
              obtain ⟨q0, q1, q2, q3, q4, q5, q6⟩ := (unhide hH).1.cells
              have C := hide (unhide CI wr _ b lb cb hT1 (get_mem (by omega)) (by have := unhide HTE; omega))
              have HLB := hide hlb
              clear hlb c0 hT hT1 hce hft hfe
              go_wp2_with fail
              refine (unhide C).mono ?_
              rintro e w5 ⟨g5, rfl, r⟩
              obtain ⟨r5, z5, b5⟩ := unhide r
              obtain ⟨xs, o1, o2⟩ := unhide hL
              have hGl : G < wr.heap.size := (o1.lt G rfl).2
              have o5 := o1.kept (row := none) ⟨b5.os, b5.tape, b5.output, b5.size, fun k hk _ => b5.block k hk⟩ (.inr (by simp [Value.ownBlock]))
              have hxl : xs.length = i := by have := o1.1; omega
              have cG := (o5.cellAt j (by omega)).trans (List.getElem?_eq_getElem (by omega))
              have fG := o5.frozenAt j
              obtain ⟨s1, t1⟩ := o5.stored j (.slice (some ⟨g5, 0, none⟩) lb lb)
              have H5 := (unhide hH).step b5
              have H6 : Hid (Hd w o (w5.setCell ⟨G, j, none⟩ (.slice (some ⟨g5, 0, none⟩) lb lb))) := ⟨(t1.block _ H5.1.lt (by simp; omega)).trans H5.1, H5.2.setCell (p := ⟨G, j, none⟩) (by show w.heap.size ≤ G; omega) _⟩
              have L6 : Hid (∃ xs, (w5.setCell ⟨G, j, none⟩ (.slice (some ⟨g5, 0, none⟩) lb lb)).ownsRow (w.heap.size + 1) 61 1 (.slice (some ⟨G, 0, none⟩) i i) i xs ∧ ∀ k, k < j + 1 → ∃ g, xs[k]? = some (.slice (some ⟨g, 0, none⟩) (As.getD k []).length (As.getD k []).length) ∧ Row3 g (As.getD k []).length (w5.setCell ⟨G, j, none⟩ (.slice (some ⟨g5, 0, none⟩) lb lb)) (itemsL o (As.getD k [])) ∧ g ≠ G) := by
                refine ⟨_, s1, fun k hk => ?_⟩
                rcases Nat.lt_or_ge k j with h | h
                · obtain ⟨gk, k1, k2, k3⟩ := o2 k h
                  refine ⟨gk, by rw [List.getElem?_set_ne (by omega)]; exact k1, (k2.keep (b5.block _ k2.lt)).keep (t1.block gk (Nat.lt_of_lt_of_le k2.lt b5.size) (by simpa using k3)), k3⟩
                · obtain rfl : k = j := by omega
                  have hne : g5 ≠ G := by omega
                  refine ⟨g5, by rw [List.getElem?_set_self (by omega), unhide HLB], ?_, hne⟩
                  rw [unhide HLB]
                  exact r5.keep (t1.block g5 r5.lt (by simpa using hne))
              have hG5 : G < w5.heap.size := Nat.lt_of_lt_of_le hGl b5.size
              generalize xs[j]'(by omega) = x0 at cG
              clear r r5 z5 b5 o1 o2 o5 s1 t1 H5 hL hH C q0 q1 q2 q3 q4 q5 q6 c1 HLB hxl
              go_wp2_with fail
              go_roundw
              case rel => exact ⟨j + 1, by omega, by go_num, H6, L6⟩
              case measure => simp [intOf]; omega
            · obtain rfl : j = i := by omega
              have hLI : Hid (LI o As G j wr) := by
                obtain ⟨xs, o1, o2⟩ := unhide hL
                exact ⟨(o1.lt G rfl).2, fun k hk => by
                  obtain ⟨gk, k1, k2, _⟩ := o2 k hk
                  exact ⟨gk, (o1.cellAt k (by omega)).trans k1, k2⟩⟩
              have hInO : Hid (∀ m ∈ As.map (itemsL o), InO (Ky.lex (cmpK o) (cmpY o)) m) := fun m hm => by
                obtain ⟨A, hA, rfl⟩ := List.mem_map.1 hm
                obtain ⟨k, hk, rfl⟩ := List.mem_iff_getElem.1 hA
                have := unhide hck k (by omega)
                rw [List.getD_eq_getElem?_getD, List.getElem?_eq_getElem hk, Option.getD_some] at this
                exact items_ino o (unhide HOK) _ this
              clear hL hlt hji HC CI hck
              have hL2 := hide ((unhide hLI).step ((Below.refl _ _).drew))
              have hS2 : wr.drew.cell? ⟨w.heap.size, 0, none⟩ = some (.bool o.num) ∧ wr.drew.cell? ⟨w.heap.size, 1, none⟩ = some (.bool o.fold) ∧ wr.drew.cell? ⟨w.heap.size, 2, none⟩ = some (.bool o.bls) ∧ wr.drew.cell? ⟨w.heap.size, 3, none⟩ = some (.bool o.rev) ∧ wr.drew.cell? ⟨w.heap.size, 4, none⟩ = some (.int .i64 o.fr) ∧ wr.drew.cell? ⟨w.heap.size, 5, none⟩ = some (.int .i64 o.«to») ∧ wr.drew.cell? ⟨w.heap.size, 6, none⟩ = some (.int .u8 (o.sep.toNat : Int)) ∧ Hid (Hd w o wr.drew) := H7.of (unhide hH).drew
              have hsmF : Hid (As.flatten.length ≤ 65536) := by show _ ≤ _; have := unhide HTE; omega
              have C3 : Hid (Calls Tryz.prog 26 #[.agg #[.bool o.num, .bool o.fold, .bool o.bls, .bool o.rev, .int .i64 o.fr, .int .i64 o.«to», .int .u8 (o.sep.toNat : Int)]] wr.drew fun e w' => ∃ v, e = .returned v ∧ Cmp w' (fun _ => False) v (cmpK o) DI ∧ Below wr.drew.heap.size wr.drew w') := byKeys_any o (fun _ => False) wr.drew (fun _ e => e.elim)
              have C4 : Hid (∀ W, Calls Tryz.prog 28 #[.agg #[.bool o.num, .bool o.fold, .bool o.bls, .bool o.rev, .int .i64 o.fr, .int .i64 o.«to», .int .u8 (o.sep.toNat : Int)]] W fun e w' => ∃ v, e = .returned v ∧ Cmp w' (fun _ => False) v (cmpY o) DI ∧ Below W.heap.size W w') := fun W => byBytes_any o (fun _ => False) W (fun _ e => e.elim)
              have C5 : Hid (∀ W f1 f2 c1 c2, Cmp W (fun _ => False) f1 c1 DI → Cmp W (fun _ => False) f2 c2 DI → Calls Tryz.prog 27 #[f1, f2] W fun e w' => ∃ v, e = .returned v ∧ Cmp w' (fun _ => False) v (Ky.lex c1 c2) DI ∧ Below W.heap.size W w') := fun W f1 f2 c1 c2 h1 h2 => cthen_any W (fun _ e => e.elim) h1 h2
              have C6 : Hid (∀ W f, Cmp W (fun _ => False) f (Ky.lex (cmpK o) (cmpY o)) DI → LI o As G j W → Calls Tryz.prog 25 #[.slice (some ⟨G, 0, none⟩) j j, f] W fun e w' => ∃ v, e = .returned v ∧ Hid (∃ O, w'.ownsRow W.heap.size 66 3 v O.length (its O) ∧ O.Perm (As.map (itemsL o)).flatten ∧ InO (Ky.lex (cmpK o) (cmpY o)) O ∧ Below W.heap.size W w')) := fun W f h1 h2 => by
                refine merge_any (As.map (itemsL o)) (fun k => (W.cell? ⟨G, k, none⟩).getD undef) G j j f _ W ((good_cmpK o).lex (good_cmpY o)) h1 (by rw [List.length_map]; exact hAl) (fun k hk => ?_) h2.1 (unhide hInO) (by rw [flat_items]; exact unhide hsmF) (by omega)
                obtain ⟨v, e1, e2⟩ := h2.inl (unhide HS) hAl k hk
                rw [e1]
                exact ⟨rfl, e2⟩
              have C7 : Hid (∀ W B v O, W.ownsRow B 66 3 v O.length (its O) → O.length ≤ 65536 → Calls Tryz.prog 24 #[v] W fun e w' => ∃ v, e = .returned v ∧ w'.ownsRow W.heap.size 9 1 v O.length (strs (O.map It.line)) ∧ Below W.heap.size W w') := fun W B v O h1 h2 => linesOf_own O B v W h1 h2
              have HAns : Hid (∀ O : List It, O.Perm (As.map (itemsL o)).flatten → InO (Ky.lex (cmpK o) (cmpY o)) O → O.map It.line = sortL o false As.flatten ∧ O.length ≤ 65536) := fun O h1 h2 => ⟨merged_is o (unhide HOK) As O h1 h2, by rw [h1.length_eq, flat_items]; exact unhide hsmF⟩
              clear hLI hInO hH HS hsmF HTE
              go_wp2_with fail
              go_region_held3 (fun w' => w'.cell? ⟨w.heap.size, 0, none⟩ = some (.bool o.num) ∧ w'.cell? ⟨w.heap.size, 1, none⟩ = some (.bool o.fold) ∧ w'.cell? ⟨w.heap.size, 2, none⟩ = some (.bool o.bls) ∧ w'.cell? ⟨w.heap.size, 3, none⟩ = some (.bool o.rev) ∧ w'.cell? ⟨w.heap.size, 4, none⟩ = some (.int .i64 o.fr) ∧ w'.cell? ⟨w.heap.size, 5, none⟩ = some (.int .i64 o.«to») ∧ w'.cell? ⟨w.heap.size, 6, none⟩ = some (.int .u8 (o.sep.toNat : Int)) ∧ Hid (Hd w o w')) (first | assumption | go_keep)
                (first
                  | ((with_reducible refine (unhide C3).mono ?_); rintro e w3 ⟨f1, rfl, hC1, b3⟩; have hS3 : w3.cell? ⟨w.heap.size, 0, none⟩ = some (.bool o.num) ∧ w3.cell? ⟨w.heap.size, 1, none⟩ = some (.bool o.fold) ∧ w3.cell? ⟨w.heap.size, 2, none⟩ = some (.bool o.bls) ∧ w3.cell? ⟨w.heap.size, 3, none⟩ = some (.bool o.rev) ∧ w3.cell? ⟨w.heap.size, 4, none⟩ = some (.int .i64 o.fr) ∧ w3.cell? ⟨w.heap.size, 5, none⟩ = some (.int .i64 o.«to») ∧ w3.cell? ⟨w.heap.size, 6, none⟩ = some (.int .u8 (o.sep.toNat : Int)) ∧ Hid (Hd w o w3) := h7_step hS2 b3; have hL3 := hide ((unhide hL2).step b3); have HC1 := hide hC1; clear hC1 b3)
                  | ((with_reducible refine (unhide C4 _).mono ?_); rintro e w4 ⟨f2, rfl, hC2, b4⟩; have hS4 : w4.cell? ⟨w.heap.size, 0, none⟩ = some (.bool o.num) ∧ w4.cell? ⟨w.heap.size, 1, none⟩ = some (.bool o.fold) ∧ w4.cell? ⟨w.heap.size, 2, none⟩ = some (.bool o.bls) ∧ w4.cell? ⟨w.heap.size, 3, none⟩ = some (.bool o.rev) ∧ w4.cell? ⟨w.heap.size, 4, none⟩ = some (.int .i64 o.fr) ∧ w4.cell? ⟨w.heap.size, 5, none⟩ = some (.int .i64 o.«to») ∧ w4.cell? ⟨w.heap.size, 6, none⟩ = some (.int .u8 (o.sep.toNat : Int)) ∧ Hid (Hd w o w4) := h7_step hS3 b4; have hL4 := hide ((unhide hL3).step b4); have HC12 := hide ((unhide HC1).keep (Kp.of b4)); have HC2 := hide hC2; clear hC2 b4)
                  | ((with_reducible refine (unhide C5 _ f1 f2 _ _ (unhide HC12) (unhide HC2)).mono ?_); rintro e w5 ⟨f3, rfl, hC3, b5⟩; have hS5 : w5.cell? ⟨w.heap.size, 0, none⟩ = some (.bool o.num) ∧ w5.cell? ⟨w.heap.size, 1, none⟩ = some (.bool o.fold) ∧ w5.cell? ⟨w.heap.size, 2, none⟩ = some (.bool o.bls) ∧ w5.cell? ⟨w.heap.size, 3, none⟩ = some (.bool o.rev) ∧ w5.cell? ⟨w.heap.size, 4, none⟩ = some (.int .i64 o.fr) ∧ w5.cell? ⟨w.heap.size, 5, none⟩ = some (.int .i64 o.«to») ∧ w5.cell? ⟨w.heap.size, 6, none⟩ = some (.int .u8 (o.sep.toNat : Int)) ∧ Hid (Hd w o w5) := h7_step hS4 b5; have hL5 := hide ((unhide hL4).step b5); have HC3 := hide hC3; clear hC3 b5)
                  | ((with_reducible refine (unhide C6 _ f3 (unhide HC3) (unhide hL5)).mono ?_); rintro e w6 ⟨v6, rfl, q6⟩; obtain ⟨O, r6, p6, i6, b6⟩ := unhide q6; have hS6 : w6.cell? ⟨w.heap.size, 0, none⟩ = some (.bool o.num) ∧ w6.cell? ⟨w.heap.size, 1, none⟩ = some (.bool o.fold) ∧ w6.cell? ⟨w.heap.size, 2, none⟩ = some (.bool o.bls) ∧ w6.cell? ⟨w.heap.size, 3, none⟩ = some (.bool o.rev) ∧ w6.cell? ⟨w.heap.size, 4, none⟩ = some (.int .i64 o.fr) ∧ w6.cell? ⟨w.heap.size, 5, none⟩ = some (.int .i64 o.«to») ∧ w6.cell? ⟨w.heap.size, 6, none⟩ = some (.int .u8 (o.sep.toNat : Int)) ∧ Hid (Hd w o w6) := h7_step hS5 b6; have hR6 := hide r6; have hA6 := hide (unhide HAns O p6 i6); clear q6 r6 p6 i6 b6)
                  | ((with_reducible refine (unhide C7 _ _ v6 O (unhide hR6) (unhide hA6).2).mono ?_); rintro e w7 ⟨v7, rfl, o7, b7⟩; have hS7 : w7.cell? ⟨w.heap.size, 0, none⟩ = some (.bool o.num) ∧ w7.cell? ⟨w.heap.size, 1, none⟩ = some (.bool o.fold) ∧ w7.cell? ⟨w.heap.size, 2, none⟩ = some (.bool o.bls) ∧ w7.cell? ⟨w.heap.size, 3, none⟩ = some (.bool o.rev) ∧ w7.cell? ⟨w.heap.size, 4, none⟩ = some (.int .i64 o.fr) ∧ w7.cell? ⟨w.heap.size, 5, none⟩ = some (.int .i64 o.«to») ∧ w7.cell? ⟨w.heap.size, 6, none⟩ = some (.int .u8 (o.sep.toNat : Int)) ∧ Hid (Hd w o w7) := h7_step hS6 b7; have hO7 := hide (own_base o7 hS6.2.2.2.2.2.2.2.2.size); clear o7 b7)
                  | fail)
              go_wp2_with fail
              go_ret2
              refine ⟨_, by rw [(unhide hE).1]; rfl, ?_, hS7.2.2.2.2.2.2.2.2⟩
              rw [(unhide hE).2, ← (unhide hA6).1, List.length_map]
              exact unhide hO7
end Go.Proofs.YtmpppdbomdepoaaGreatDoor.So
