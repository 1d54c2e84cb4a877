import Derived.Test.YtidhceebafmlkaaGreatDoorPmMay
import Derived.ProofKit
import Derived.OpenShut
import Derived.SizedLaws
import Derived.Deep.Slices
import Derived.Deep.SlicePairs
import Derived.Lib.SmallJoins
import Derived.Test.YtidhceebafmlkaaGreatDoorTrGreat
import Derived.Laws.CopyRow
import Derived.OwnWalk
import Derived.Laws.OwnMore
namespace Go.Proofs.YtidhceebafmlkaaGreatDoor.Pm
open Go.ChangeShapes Go.WideShapes Go.ChangeAt Go.RowKit Go.Deep
set_option maxRecDepth 100000 in
theorem cellsI : Tryz.prog.cellsOf 3 = 1 := by kernel_rfl
set_option maxRecDepth 100000 in
theorem cellsE : Tryz.prog.cellsOf 32 = 4 := by kernel_rfl
set_option maxRecDepth 100000 in
theorem open_cells {H : Type} {enc : TypeId × Value → H} {W : World} {base fuel : Nat} {spare : Nat → Bool} {held : Bool} {cs : List Value} {x : DataW H × List MemPlace} (hl : cs.length = 4)
    (hf : DataW.trod enc Tryz.prog W base spare held fuel 32 cs = some x) : ∃ e : Ev, cs = (ea e).toList := by
  match cs, hl with
  | [c0, c1, c2, c3], _ =>
    obtain ⟨xs, n, _, _, hl, hlen, hfl⟩ := DataW.trod_struct Tryz.underlying32 hf
    match xs, hlen with
    | [y0, y1, y2, y3], _ =>
      obtain ⟨a0, e0, _, _⟩ := DataW.trod_int Tryz.underlying3 (hfl 0 _ rfl)
      obtain ⟨a1, e1, _, _⟩ := DataW.trod_int Tryz.underlying3 (hfl 1 _ rfl)
      obtain ⟨a2, e2, _, _⟩ := DataW.trod_int Tryz.underlying3 (hfl 2 _ rfl)
      obtain ⟨a3, e3, _, _⟩ := DataW.trod_int Tryz.underlying3 (hfl 3 _ rfl)
      simp [cellsI] at e0 e1 e2 e3
      subst e0 e1 e2 e3
      exact ⟨⟨a0, a1, a2, a3⟩, rfl⟩
end Go.Proofs.YtidhceebafmlkaaGreatDoor.Pm

namespace Go.Proofs.YtidhceebafmlkaaGreatDoor.Pt
open Go.ChangeShapes Go.WideShapes Go.ChangeAt Go.RowKit Go.Deep
set_option maxRecDepth 100000 in
theorem cellsT : Tryz.prog.cellsOf 24 = 2 := by kernel_rfl
set_option maxRecDepth 100000 in
theorem cellsS : Tryz.prog.cellsOf 9 = 1 := by kernel_rfl
set_option maxRecDepth 100000 in
theorem open_tcells {H : Type} {enc : TypeId × Value → H} {W : World} {base fuel : Nat} {spare : Nat → Bool} {held : Bool} {c0 c1 : Value} {x : DataW H × List MemPlace}
    (hf : DataW.trod enc Tryz.prog W base spare held fuel 24 [c0, c1] = some x) (hz : ∀ n ∈ x.1.weights Tryz.prog 24, n ≤ reachBytes) :
    ∃ (a : Option Addr) (n cap : Nat) (now : Int) (ns : List Tr.Nd), c0 = .slice a n cap ∧ c1 = .int .i64 now ∧ Tr.Ng W a n cap ns ∧ n ≤ 281474976710656 ∧ (∀ i, i < n → Tr.Rb (Tr.nd ns i)) := by
  obtain ⟨xs, n, _, hx, hl, hlen, hfl⟩ := DataW.trod_struct Tryz.underlying24 hf
  match xs, hlen with
  | [y0, y1], _ =>
    have h0 := hfl 0 _ rfl
    have h1 := hfl 1 _ rfl
    obtain ⟨a, len, cap, e0, ns, hng, hn, hrb⟩ := Tr.open_nodes (x := y0) h0 (fun k hk => hz k (by
      rw [hx]; simp only [DataW.weights, Tryz.underlying24, DataW.weightsEach, List.map_cons, List.mem_append]; simp [hk]))
    obtain ⟨a1, e1, _, _⟩ := DataW.trod_int Tryz.underlying3 h1
    have cN : Tryz.prog.cellsOf 22 = 1 := by kernel_rfl
    simp [Tr.cellsI, cN] at e0 e1
    subst e0 e1
    exact ⟨a, len, cap, a1, ns, rfl, rfl, hng, hn, hrb⟩
end Go.Proofs.YtidhceebafmlkaaGreatDoor.Pt

namespace Go.Proofs.YtidhceebafmlkaaGreatDoor.Tr
open Go.RowKit Cu
abbrev Nv := Nd × Value × Value
abbrev zNv : Nv := (nz, .slice none 0 0, .slice none 0 0)
def cellsOf (l : List Nv) : List Value := l.flatMap fun x => nc x.1 x.2.1 x.2.2
theorem nc_length (n : Nd) (d e : Value) : (nc n d e).length = 10 := rfl
theorem cellsOf_length (l : List Nv) : (cellsOf l).length = l.length * 10 := by
  induction l with
  | nil => rfl
  | cons r l ih => simp [cellsOf, nc] at ih ⊢; omega
theorem cellsOf_snoc (l : List Nv) (x : Nv) : cellsOf (l ++ [x]) = cellsOf l ++ nc x.1 x.2.1 x.2.2 := by simp [cellsOf]
theorem cellsOf_get (l : List Nv) (i j : Nat) (h : i < l.length) (hj : j < 10) : (cellsOf l)[i * 10 + j]? = (nc (l.getD i zNv).1 (l.getD i zNv).2.1 (l.getD i zNv).2.2)[j]? := by
  induction l generalizing i with
  | nil => simp at h
  | cons r l ih =>
    have e : cellsOf (r :: l) = nc r.1 r.2.1 r.2.2 ++ cellsOf l := by simp [cellsOf]
    rw [e]
    cases i with
    | zero => rw [List.getElem?_append_left (by rw [nc_length]; omega)]; simp
    | succ i =>
      rw [List.getElem?_append_right (by rw [nc_length]; omega), nc_length, show (i + 1) * 10 + j - 10 = i * 10 + j by omega, ih i (by simpa using h)]
      simp
def Ox (w : World) (x : Nv) : Prop := ∃ da dc la lc, x.2.1 = .slice da x.1.data.length dc ∧ x.2.2 = .slice la x.1.list.length lc ∧ By w da x.1.data.length dc x.1.data ∧ Eg w la x.1.list.length lc x.1.list
theorem add_none (b off j : Nat) : (⟨b, off, none⟩ : Addr).add j = ⟨b, off + j, none⟩ := by unfold Addr.add; split <;> simp_all
theorem nd_map (l : List Nv) (i : Nat) (h : i < l.length) : nd (l.map (·.1)) i = (l.getD i zNv).1 := by
  unfold nd; simp [List.getD, h]
theorem own_node {w : World} {base g n cap : Nat} {l : List Nv} {xs : List Value} (h : w.ownsRow base 82 10 (.slice (some ⟨g, 0, none⟩) n cap) n xs) (i : Nat) (hi : i < l.length) (hx : ∀ j, j < 10 → xs[i * 10 + j]? = (cellsOf l)[i * 10 + j]?) :
    N10 w g (i * 10) (l.getD i zNv).1 (l.getD i zNv).2.1 (l.getD i zNv).2.2 := by
  refine N10.at fun j u hj => ?_
  have hj5 : j < 10 := by rw [← nc_length (l.getD i zNv).1 (l.getD i zNv).2.1 (l.getD i zNv).2.2]; exact (List.getElem?_eq_some_iff.1 hj).1
  have h1 := h.cells (g := g) rfl (i * 10 + j) u (by rw [hx j hj5, cellsOf_get l i j hi hj5]; exact hj)
  rw [add_none, Nat.zero_add] at h1
  exact h1
theorem ng_of_own {w : World} {base : Nat} {v : Value} {l : List Nv} (h : w.ownsRow base 82 10 v l.length (cellsOf l)) (ho : ∀ x ∈ l, Ox w x) : ∃ a cap, v = .slice a l.length cap ∧ Ng w a l.length cap (l.map (·.1)) := by
  rcases h.2 with ⟨hv, hn⟩ | ⟨g, cap, cur, hv, hb, hg, hle, rest⟩
  · exact ⟨none, 0, by rw [hv, hn], by simp, by omega, fun _ => ⟨hn, rfl⟩, .inl hn⟩
  · subst hv
    refine ⟨some ⟨g, 0, none⟩, cap, rfl, by simp, hle, (by intro h; cases h), .inr ⟨g, 0, rfl, (Array.getElem?_eq_some_iff.1 hg).1, fun i hi => ?_⟩⟩
    rw [nd_map l i hi, Nat.zero_add]
    have h10 := own_node h i hi (fun _ _ => rfl)
    have hm : l.getD i zNv ∈ l := by simp [List.getD, List.getElem?_eq_getElem hi]
    obtain ⟨da, dc, la, lc, h1, h2, h3, h4⟩ := ho _ hm
    rw [h1, h2] at h10
    exact ⟨da, dc, la, lc, h10, h3, h4⟩
end Go.Proofs.YtidhceebafmlkaaGreatDoor.Tr

namespace Go.Proofs.YtidhceebafmlkaaGreatDoor.Ca
open Go.RowKit Cu Tr
theorem infoE : (Tryz.prog.info? 116).map (fun i => (i.zero, i.size, i.bytes)) = some (some (.agg #[.string ⟨#[]⟩, .int .i64 0]), 2, 24) := by kernel_rfl
theorem infoN : (Tryz.prog.info? 82).map (fun i => (i.zero, i.size, i.bytes)) = some (some (.agg (na nz (.slice none 0 0) (.slice none 0 0))), 10, 120) := by kernel_rfl
theorem run_copy_sz {P : Program} (w : World) (dT sT ty elem : TypeId) (s g o dLen dCap : Nat) (a : Addr) (sLen sCap : Nat) (cur : Array Value) (t : TypeId) (cs : List Value)
    (hu : P.underlying dT = some (.slice elem)) (hs : (P.info? elem).map (·.size) = some s) (hg : w.heap[g]? = some (.cells cur t (0, 0))) (hn : cs.length = Nat.min sLen dLen * s)
    (hsrc : ∀ j v, cs[j]? = some v → w.cell? (a.add j) = some v) (hfit : o + cs.length ≤ cur.size) (h1 : ∀ v ∈ cs, v.oneCell' = true) :
    (Builtin.copy_ #[dT, sT] ty #[.slice (some ⟨g, o, none⟩) dLen dCap, .slice (some a) sLen sCap]).run P w = .ok (goInt (Nat.min sLen dLen)) (w.setRow g (cur.toList.take o ++ cs ++ cur.toList.drop (o + cs.length)).toArray) := by
  have hl := run_loadCells_list (P := P) w a cs hsrc
  have hst := run_storeCells_at P g o t cs 0 cur w hg (by simpa using hfit) h1
  cases hq : P.info? elem with
  | none => simp [hq] at hs
  | some i =>
    have hi : i.size = s := by simpa [hq] using hs
    simp [Builtin.copy_, run_underlying hu, Builtin.lenOf, Builtin.firstCells, sizeOf, typeInfo, hq, hi, ← hn, hl, hst]
theorem filled {P : Program} {w w1 : World} {T e ty : TypeId} {z n : Nat} {xs ys : List Value} (hu : P.underlying T = some (.slice e)) (hsz : (P.info? e).map (·.size) = some z) (h : w1.ownsRow w.heap.size e z (.slice (some ⟨w.heap.size, 0, none⟩) n n) n xs) (hb : Below w.heap.size w w1) (hy : ys.length = n * z) (b off cap : Nat)
    (hs : ∀ j v, ys[j]? = some v → w1.cell? ⟨b, off + j, none⟩ = some v) (h1y : ∀ v ∈ ys, v.oneCell' = true) :
    ∃ w2, (Builtin.copy_ #[T, T] ty #[.slice (some ⟨w.heap.size, 0, none⟩) n n, .slice (some ⟨b, off, none⟩) n cap]).run P w1 = .ok (goInt n) w2 ∧ w2.ownsRow w.heap.size e z (.slice (some ⟨w.heap.size, 0, none⟩) n n) n ys ∧ Below w.heap.size w w2 := by
  rcases h.2 with ⟨h0, _⟩ | ⟨g, cap', cur, hv, hg0, hg, h1, h2, h3, h4⟩
  · simp at h0
  · simp at hv
    obtain ⟨rfl, rfl⟩ := hv
    have hc : (cur.toList.take 0 ++ ys ++ cur.toList.drop (0 + ys.length)) = ys := by
      rw [List.take_zero, List.nil_append, Nat.zero_add, List.drop_eq_nil_of_le (by simp; omega), List.append_nil]
    have hm : Nat.min n n = n := Nat.min_self n
    have hr := run_copy_sz (P := P) w1 T T ty e z w.heap.size 0 n n ⟨b, off, none⟩ n cap cur e ys hu hsz hg (by rw [hm]; exact hy) (fun j v hj => by rw [add_none]; exact hs j v hj) (by omega) h1y
    rw [hc, hm] at hr
    refine ⟨_, hr, ⟨hy, .inr ⟨_, n, ys.toArray, rfl, Nat.le_refl _, setRow_heap w1 _ cur _ e _ hg, Nat.le_refl _, h2, by simpa using hy, by rw [List.take_of_length_le (by simp [hy])]⟩⟩, ?_⟩
    exact hb.trans ⟨rfl, rfl, rfl, by simp [World.setRow], fun k hk => setRow_other w1 _ k _ (by omega)⟩
set_option maxRecDepth 100000 in
set_option maxHeartbeats 1000000 in
theorem copyByte_any (a : Option Addr) (n cap : Nat) (xs : List Value) (w : World) (hx : xs.length = n * 1) (hn : n ≤ 100000000) (h1 : ∀ v ∈ xs, v.oneCell' = true) (h : n = 0 ∨ ∃ b off, a = some ⟨b, off, none⟩ ∧ b < w.heap.size ∧ ∀ j v, xs[j]? = some v → w.cell? ⟨b, off + j, none⟩ = some v) :
    Calls Tryz.prog 96 #[.slice a n cap] w fun e w' => (∃ v, e = .returned v ∧ w'.ownsRow w.heap.size 5 1 v n xs) ∧ Below w.heap.size w w' := by
  obtain ⟨i0, hi, hz0, hz1, hz2⟩ := info_parts Tryz.infoByte
  have hsz : (Tryz.prog.info? 5).map (·.size) = some 1 := by rw [hi]; simp [hz1]
  rcases Nat.eq_zero_or_pos n with rfl | hp
  · obtain rfl : xs = [] := List.eq_nil_of_length_eq_zero (by omega)
    go_enter Tryz.func96, Tryz.ntmps96
    go_wp2
    go_ret
    exact ⟨⟨_, rfl, World.ownsRow_nil _ _ _ _⟩, Below.refl _ _⟩
  · rcases h with h0 | ⟨b, off, rfl, hb, hc⟩
    · omega
    have hn0 : ¬ ((n : Int) = 0) := by omega
    have HC := hide hc
    have HX := hide hx
    have H1 := hide h1
    clear hc hx h1
    go_enter Tryz.func96, Tryz.ntmps96
    go_wp2_with (at_make; refine wpList_make_full _ rfl _ _ 30 rfl w.heap.size 5 i0 _ 1 Tryz.underlying30 hi hz0 hz1 _ _ _ _ n rfl rfl rfl rfl (by rw [hz2]; omega) (by unfold maxLen; omega) (Nat.le_refl _) ?_; intro w1 hown1 hgrow1; have hb1 : Below w.heap.size w w1 := (Below.refl _ _).grown hgrow1 (Nat.le_refl _) (by simp); obtain ⟨w2, hcp, HO, HB⟩ := filled (P := Tryz.prog) (ty := 3) Tryz.underlying30 hsz hown1 hb1 (uh HX) b off cap (fun j v hj => (hb1.cell hb).trans (uh HC j v hj)) (uh H1); replace HO := hide HO; replace HB := hide HB; clear hown1 hgrow1 hb1)
    go_ret
    exact ⟨⟨_, rfl, uh HO⟩, uh HB⟩
set_option maxRecDepth 100000 in
set_option maxHeartbeats 1000000 in
theorem copyEnt_any (a : Option Addr) (n cap : Nat) (xs : List Value) (w : World) (hx : xs.length = n * 2) (hn : n ≤ 100000000) (h1 : ∀ v ∈ xs, v.oneCell' = true) (h : n = 0 ∨ ∃ b off, a = some ⟨b, off, none⟩ ∧ b < w.heap.size ∧ ∀ j v, xs[j]? = some v → w.cell? ⟨b, off + j, none⟩ = some v) :
    Calls Tryz.prog 246 #[.slice a n cap] w fun e w' => (∃ v, e = .returned v ∧ w'.ownsRow w.heap.size 116 2 v n xs) ∧ Below w.heap.size w w' := by
  obtain ⟨i0, hi, hz0, hz1, hz2⟩ := info_parts infoE
  have hsz : (Tryz.prog.info? 116).map (·.size) = some 2 := by rw [hi]; simp [hz1]
  rcases Nat.eq_zero_or_pos n with rfl | hp
  · obtain rfl : xs = [] := List.eq_nil_of_length_eq_zero (by omega)
    go_enter Tryz.func246, Tryz.ntmps246
    go_wp2
    go_ret
    exact ⟨⟨_, rfl, World.ownsRow_nil _ _ _ _⟩, Below.refl _ _⟩
  · rcases h with h0 | ⟨b, off, rfl, hb, hc⟩
    · omega
    have hn0 : ¬ ((n : Int) = 0) := by omega
    have HC := hide hc
    have HX := hide hx
    have H1 := hide h1
    clear hc hx h1
    go_enter Tryz.func246, Tryz.ntmps246
    go_wp2_with (at_make; refine wpList_make_full _ rfl _ _ 80 rfl w.heap.size 116 i0 _ 2 Tryz.underlying80 hi hz0 hz1 _ _ _ _ n rfl rfl rfl rfl (by rw [hz2]; omega) (by unfold maxLen; omega) (Nat.le_refl _) ?_; intro w1 hown1 hgrow1; have hb1 : Below w.heap.size w w1 := (Below.refl _ _).grown hgrow1 (Nat.le_refl _) (by simp); obtain ⟨w2, hcp, HO, HB⟩ := filled (P := Tryz.prog) (ty := 3) Tryz.underlying80 hsz hown1 hb1 (uh HX) b off cap (fun j v hj => (hb1.cell hb).trans (uh HC j v hj)) (uh H1); replace HO := hide HO; replace HB := hide HB; clear hown1 hgrow1 hb1)
    go_ret
    exact ⟨⟨_, rfl, uh HO⟩, uh HB⟩
set_option maxRecDepth 100000 in
set_option maxHeartbeats 1000000 in
theorem copyNode_any (a : Option Addr) (n cap : Nat) (xs : List Value) (w : World) (hx : xs.length = n * 10) (hn : n ≤ 100000000) (h1 : ∀ v ∈ xs, v.oneCell' = true) (h : n = 0 ∨ ∃ b off, a = some ⟨b, off, none⟩ ∧ b < w.heap.size ∧ ∀ j v, xs[j]? = some v → w.cell? ⟨b, off + j, none⟩ = some v) :
    Calls Tryz.prog 245 #[.slice a n cap] w fun e w' => (∃ v, e = .returned v ∧ w'.ownsRow w.heap.size 82 10 v n xs) ∧ Below w.heap.size w w' := by
  obtain ⟨i0, hi, hz0, hz1, hz2⟩ := info_parts infoN
  have hsz : (Tryz.prog.info? 82).map (·.size) = some 10 := by rw [hi]; simp [hz1]
  rcases Nat.eq_zero_or_pos n with rfl | hp
  · obtain rfl : xs = [] := List.eq_nil_of_length_eq_zero (by omega)
    go_enter Tryz.func245, Tryz.ntmps245
    go_wp2
    go_ret
    exact ⟨⟨_, rfl, World.ownsRow_nil _ _ _ _⟩, Below.refl _ _⟩
  · rcases h with h0 | ⟨b, off, rfl, hb, hc⟩
    · omega
    have hn0 : ¬ ((n : Int) = 0) := by omega
    have HC := hide hc
    have HX := hide hx
    have H1 := hide h1
    clear hc hx h1
    go_enter Tryz.func245, Tryz.ntmps245
    go_wp2_with (at_make; refine wpList_make_full _ rfl _ _ 22 rfl w.heap.size 82 i0 _ 10 Tryz.underlying22 hi hz0 hz1 _ _ _ _ n rfl rfl rfl rfl (by rw [hz2]; omega) (by unfold maxLen; omega) (Nat.le_refl _) ?_; intro w1 hown1 hgrow1; have hb1 : Below w.heap.size w w1 := (Below.refl _ _).grown hgrow1 (Nat.le_refl _) (by simp); obtain ⟨w2, hcp, HO, HB⟩ := filled (P := Tryz.prog) (ty := 3) Tryz.underlying22 hsz hown1 hb1 (uh HX) b off cap (fun j v hj => (hb1.cell hb).trans (uh HC j v hj)) (uh H1); replace HO := hide HO; replace HB := hide HB; clear hown1 hgrow1 hb1)
    go_ret
    exact ⟨⟨_, rfl, uh HO⟩, uh HB⟩
end Go.Proofs.YtidhceebafmlkaaGreatDoor.Ca

namespace Go.Proofs.YtidhceebafmlkaaGreatDoor.Ca
open Go.RowKit Cu Tr
def entCells (es : List En) : List Value := es.flatMap ec
theorem entCells_length (es : List En) : (entCells es).length = es.length * 2 := by
  induction es with
  | nil => rfl
  | cons e l ih => simp [entCells, ec] at ih ⊢; omega
theorem entCells_get (l : List En) (i j : Nat) (h : i < l.length) (hj : j < 2) : (entCells l)[i * 2 + j]? = (ec (en l i))[j]? := by
  induction l generalizing i with
  | nil => simp at h
  | cons r l ih =>
    have e : entCells (r :: l) = ec r ++ entCells l := by simp [entCells]
    rw [e]
    cases i with
    | zero => rw [List.getElem?_append_left (by simp [ec]; omega)]; simp [en]
    | succ i =>
      rw [List.getElem?_append_right (by simp [ec]; omega), show (i + 1) * 2 + j - (ec r).length = i * 2 + j by simp [ec]; omega, ih i (by simpa using h)]
      simp [en]
theorem entCells_one (es : List En) : ∀ v ∈ entCells es, v.oneCell' = true := by
  intro v hv
  simp only [entCells, List.mem_flatMap] at hv
  obtain ⟨e, _, hv⟩ := hv
  simp only [ec, List.mem_cons, List.not_mem_nil, or_false] at hv
  rcases hv with rfl | rfl <;> rfl
theorem byteCells_one (l : Bs) : ∀ v ∈ Lib.byteCells l, v.oneCell' = true := by
  intro v hv
  simp only [Lib.byteCells, List.mem_map] at hv
  obtain ⟨c, _, rfl⟩ := hv
  rfl
abbrev RowE (B : Nat) (v : Value) (es : List En) (w : World) : Prop := w.ownsRow B 116 2 v es.length (entCells es)
abbrev RowN (B : Nat) (v : Value) (l : List Nv) (w : World) : Prop := w.ownsRow B 82 10 v l.length (cellsOf l)
def Apt (x y : Nv) : Prop := (∀ k, x.2.1.ownBlock = some k → y.2.1.ownBlock ≠ some k) ∧ (∀ k, x.2.2.ownBlock = some k → y.2.2.ownBlock ≠ some k)
def Hd (B : Nat) (w : World) (x : Nv) : Prop := Row B x.2.1 x.1.data w ∧ RowE B x.2.2 x.1.list w
structure Df (w : World) (B D : Nat) (now : Int) (v : Value) (l : List Nv) : Prop where
  box : w.heap[D]? = some (.cells #[v, .int .i64 now] 230)
  hD : B ≤ D
  row : RowN B v l w
  own : ∀ x ∈ l, Hd B w x
  ap : l.Pairwise Apt
theorem own_keep {w w' : World} {B : Nat} {e : TypeId} {s : Nat} {v : Value} {n : Nat} {xs : List Value} (h : w.ownsRow B e s v n xs) (hk : ∀ k, v.ownBlock = some k → w'.heap[k]? = w.heap[k]?) : w'.ownsRow B e s v n xs := by
  refine ⟨h.1, ?_⟩
  rcases h.2 with h0 | ⟨g, c, cur, rfl, e1, e2, e3⟩
  · exact .inl h0
  · exact .inr ⟨g, c, cur, rfl, e1, (hk g rfl).trans e2, e3⟩
theorem own_type {w : World} {B : Nat} {e : TypeId} {s : Nat} {v : Value} {n : Nat} {xs : List Value} (h : w.ownsRow B e s v n xs) {k : Nat} (hv : v.ownBlock = some k) : ∃ cur, w.heap[k]? = some (.cells cur e (0, 0)) := by
  rcases h.2 with ⟨rfl, _⟩ | ⟨g, c, cur, rfl, e1, e2, e3⟩
  · cases hv
  · cases hv; exact ⟨cur, e2⟩
theorem obj_ne {w : World} {a b : Nat} {c c' : Array Value} {e e' : TypeId} {f f' : Nat × Nat} (h : w.heap[a]? = some (.cells c e f)) (h' : w.heap[b]? = some (.cells c' e' f')) (hne : e ≠ e') : a ≠ b := fun q => by
  rw [q, h'] at h
  injection h with h
  injection h with _ h2 _
  exact hne h2.symm
theorem own_below {w w' : World} {B : Nat} {e : TypeId} {s : Nat} {v : Value} {n : Nat} {xs : List Value} (h : w.ownsRow B e s v n xs) (hb : Below w.heap.size w w') : w'.ownsRow B e s v n xs := own_keep h fun k hk => hb.block k (h.lt k hk).2
theorem Hd.below {B : Nat} {w w' : World} {x : Nv} (h : Hd B w x) (hb : Below w.heap.size w w') : Hd B w' x := ⟨own_below h.1 hb, own_below h.2 hb⟩
theorem Df.below {w w' : World} {B D : Nat} {now : Int} {v : Value} {l : List Nv} (h : Df w B D now v l) (hb : Below w.heap.size w w') : Df w' B D now v l :=
  ⟨(hb.block _ (Array.getElem?_eq_some_iff.1 h.box).1).trans h.box, h.hD, own_below h.row hb, fun x hx => (h.own x hx).below hb, h.ap⟩
theorem Hd.nodes {B : Nat} {w w' : World} {x : Nv} (h : Hd B w x) (hk : ∀ (k : Nat) (cur : Array Value), (w.heap[k]? = some (Obj.cells cur 5 (0, 0)) ∨ w.heap[k]? = some (Obj.cells cur 116 (0, 0))) → w'.heap[k]? = w.heap[k]?) : Hd B w' x :=
  ⟨own_keep h.1 fun k hv => (own_type h.1 hv).elim fun cur hc => hk k cur (.inl hc), own_keep h.2 fun k hv => (own_type h.2 hv).elim fun cur hc => hk k cur (.inr hc)⟩
theorem ox_of {B : Nat} {w : World} {x : Nv} (h : Hd B w x) : Ox w x := by
  obtain ⟨h1, h2⟩ := h
  have e1 : ∃ da dc, x.2.1 = .slice da x.1.data.length dc ∧ By w da x.1.data.length dc x.1.data := by
    rcases h1.2 with ⟨hv, h0⟩ | ⟨g, cap, cur, hv, hb, hg, hle, hmx, hsz, htk⟩
    · exact ⟨none, 0, by rw [hv, h0], by simp, by omega, fun _ => ⟨h0, rfl⟩, .inl h0⟩
    · refine ⟨some ⟨g, 0, none⟩, cap, hv, rfl, hle, (by intro q; cases q), .inr ⟨g, 0, rfl, (Array.getElem?_eq_some_iff.1 hg).1, fun i hi => ?_⟩⟩
      rw [hv] at h1
      have := h1.cellAt i (by omega)
      rw [Nat.zero_add, this]
      simp [Lib.byteCells, hi]
  have e2 : ∃ la lc, x.2.2 = .slice la x.1.list.length lc ∧ Eg w la x.1.list.length lc x.1.list := by
    rcases h2.2 with ⟨hv, h0⟩ | ⟨g, cap, cur, hv, hb, hg, hle, hmx, hsz, htk⟩
    · exact ⟨none, 0, by rw [hv, h0], by simp, by omega, fun _ => ⟨h0, rfl⟩, .inl h0⟩
    · refine ⟨some ⟨g, 0, none⟩, cap, hv, rfl, hle, (by intro q; cases q), .inr ⟨g, 0, rfl, (Array.getElem?_eq_some_iff.1 hg).1, fun i hi => ?_⟩⟩
      rw [hv] at h2
      have c0 := h2.cellAt (i * 2 + 0) (by omega)
      have c1 := h2.cellAt (i * 2 + 1) (by omega)
      rw [entCells_get _ i 0 hi (by omega)] at c0
      rw [entCells_get _ i 1 hi (by omega)] at c1
      rw [Nat.zero_add]
      exact ⟨c0, c1⟩
  obtain ⟨da, dc, q1, q2⟩ := e1
  obtain ⟨la, lc, q3, q4⟩ := e2
  exact ⟨da, dc, la, lc, q1, q3, q2, q4⟩
theorem ng_nv {w : World} {a : Option Addr} {n cap : Nat} {ns : List Nd} (h : Ng w a n cap ns) : ∃ l : List Nv, l.map (·.1) = ns ∧ (∀ x ∈ l, Ox w x) ∧ (n = 0 ∨ ∃ b off, a = some ⟨b, off, none⟩ ∧ b < w.heap.size ∧ ∀ j v, (cellsOf l)[j]? = some v → w.cell? ⟨b, off + j, none⟩ = some v) := by
  rcases h.cells with h0 | ⟨b, off, rfl, hb, hc⟩
  · obtain rfl : ns = [] := List.eq_nil_of_length_eq_zero (by rw [h.len, h0])
    exact ⟨[], rfl, by simp, .inl h0⟩
  · have hl := h.len
    have q : ∀ k, k ≤ n → ∃ l : List Nv, l.map (·.1) = ns.take k ∧ (∀ x ∈ l, Ox w x) ∧ ∀ j v, (cellsOf l)[j]? = some v → w.cell? ⟨b, off + j, none⟩ = some v := by
      intro k
      induction k with
      | zero => intro _; exact ⟨[], by simp, by simp, fun j v hj => by simp [cellsOf] at hj⟩
      | succ k ih =>
        intro hk
        obtain ⟨l, h1, h2, h3⟩ := ih (by omega)
        obtain ⟨da, dc, la, lc, q1, q2, q3⟩ := hc k (by omega)
        have hll : l.length = k := by have := congrArg List.length h1; simp at this; omega
        refine ⟨l ++ [(nd ns k, .slice da (nd ns k).data.length dc, .slice la (nd ns k).list.length lc)], ?_, ?_, ?_⟩
        · rw [List.map_append, h1, take_nd ns k (by omega)]; rfl
        · intro x hx
          rcases List.mem_append.1 hx with hx | hx
          · exact h2 x hx
          · simp at hx; subst hx; exact ⟨da, dc, la, lc, rfl, rfl, q2, q3⟩
        · intro j v hj
          rw [cellsOf_snoc] at hj
          by_cases hlt : j < (cellsOf l).length
          · rw [List.getElem?_append_left hlt] at hj; exact h3 j v hj
          · rw [List.getElem?_append_right (by omega), cellsOf_length, hll] at hj
            rw [cellsOf_length, hll] at hlt
            obtain ⟨p, hp⟩ : ∃ p, j = k * 10 + p := ⟨j - k * 10, by omega⟩
            subst hp
            rw [show k * 10 + p - k * 10 = p by omega] at hj
            have hp10 : p < 10 := by have := (List.getElem?_eq_some_iff.1 hj).1; simpa [nc] using this
            rw [← Nat.add_assoc]
            match p, hp10 with
            | 0, _ => simp [nc] at hj; subst hj; exact q1.c0
            | 1, _ => simp [nc] at hj; subst hj; exact q1.c1
            | 2, _ => simp [nc] at hj; subst hj; exact q1.c2
            | 3, _ => simp [nc] at hj; subst hj; exact q1.c3
            | 4, _ => simp [nc] at hj; subst hj; exact q1.c4
            | 5, _ => simp [nc] at hj; subst hj; exact q1.c5
            | 6, _ => simp [nc] at hj; subst hj; exact q1.c6
            | 7, _ => simp [nc] at hj; subst hj; exact q1.c7
            | 8, _ => simp [nc] at hj; subst hj; exact q1.c8
            | 9, _ => simp [nc] at hj; subst hj; exact q1.c9
    obtain ⟨l, h1, h2, h3⟩ := q n (Nat.le_refl _)
    rw [List.take_of_length_le (by omega)] at h1
    exact ⟨l, h1, h2, .inr ⟨b, off, rfl, hb, h3⟩⟩
theorem nv_one {w : World} {l : List Nv} (h : ∀ x ∈ l, Ox w x) : ∀ v ∈ cellsOf l, v.oneCell' = true := by
  intro v hv
  simp only [cellsOf, List.mem_flatMap] at hv
  obtain ⟨x, hx, hv⟩ := hv
  obtain ⟨da, dc, la, lc, h1, h2, -, -⟩ := h x hx
  rw [h1, h2] at hv
  simp only [nc, List.mem_cons, List.not_mem_nil, or_false] at hv
  rcases hv with rfl | rfl | rfl | rfl | rfl | rfl | rfl | rfl | rfl | rfl <;> rfl
theorem cellsOf_set (l : List Nv) (i j : Nat) (x' : Nv) (u : Value) (hi : i < l.length) (hj : j < 10) (he : nc x'.1 x'.2.1 x'.2.2 = (nc (l.getD i zNv).1 (l.getD i zNv).2.1 (l.getD i zNv).2.2).set j u) : cellsOf (l.set i x') = (cellsOf l).set (i * 10 + j) u := by
  induction l generalizing i with
  | nil => simp at hi
  | cons r l ih =>
    have e : ∀ r l, cellsOf (r :: l) = nc r.1 r.2.1 r.2.2 ++ cellsOf l := fun r l => by simp [cellsOf]
    cases i with
    | zero =>
      simp only [List.getD_cons_zero] at he
      rw [List.set_cons_zero, e, e, he, List.set_append_left _ _ (by rw [nc_length]; omega), Nat.zero_mul, Nat.zero_add]
    | succ i =>
      simp only [List.getD_cons_succ] at he
      rw [List.set_cons_succ, e, e, ih i (by simpa using hi) he, List.set_append_right _ _ (by rw [nc_length]; omega), nc_length, show (i + 1) * 10 + j - 10 = i * 10 + j by omega]
end Go.Proofs.YtidhceebafmlkaaGreatDoor.Ca
