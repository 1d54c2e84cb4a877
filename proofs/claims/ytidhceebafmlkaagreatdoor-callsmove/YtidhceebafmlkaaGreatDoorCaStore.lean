import Derived.Test.YtidhceebafmlkaaGreatDoorCaDraft
import Derived.Deep.RegionHeld3
import Derived.Deep.DeepCutAuto
import Derived.Deep.CutBlock
import Derived.Test.YtidhceebafmlkaaGreatDoorTrFind
import Derived.Test.YtidhceebafmlkaaGreatDoorPtStr
import Derived.Test.YtidhceebafmlkaaGreatDoorCaPlain
import Derived.BigRegion
namespace Go.Proofs.YtidhceebafmlkaaGreatDoor.Ca
open Go.RowKit Cu Tr
theorem byGet {w : World} {a : Option Addr} {n cap : Nat} {l : Bs} (h : By w a n cap l) : n = 0 ∨ ∃ b off, a = some ⟨b, off, none⟩ ∧ b < w.heap.size ∧ ∀ j v, (Lib.byteCells l)[j]? = some v → w.cell? ⟨b, off + j, none⟩ = some v := by
  rcases h.cells with h0 | ⟨b, off, h1, h2, h3⟩
  · exact .inl h0
  · refine .inr ⟨b, off, h1, h2, fun j v hj => ?_⟩
    have hjl : j < l.length := by have := (List.getElem?_eq_some_iff.1 hj).1; simpa [Lib.byteCells] using this
    have := h3 j (by rw [← h.len]; exact hjl)
    rw [this, ← hj]
    simp [Lib.byteCells, hjl]
theorem egGet {w : World} {a : Option Addr} {n cap : Nat} {l : List En} (h : Eg w a n cap l) : n = 0 ∨ ∃ b off, a = some ⟨b, off, none⟩ ∧ b < w.heap.size ∧ ∀ j v, (entCells l)[j]? = some v → w.cell? ⟨b, off + j, none⟩ = some v := by
  rcases h.cells with h0 | ⟨b, off, h1, h2, h3⟩
  · exact .inl h0
  · refine .inr ⟨b, off, h1, h2, fun j v hj => ?_⟩
    have hjl : j < l.length * 2 := by have := (List.getElem?_eq_some_iff.1 hj).1; simpa [entCells_length] using this
    obtain ⟨i, p, rfl, hp⟩ : ∃ i p, j = i * 2 + p ∧ p < 2 := ⟨j / 2, j % 2, by omega, by omega⟩
    have q := h3 i (by rw [← h.len]; omega)
    rw [entCells_get l i p (by omega) hp] at hj
    match p, hp with
    | 0, _ => simp [ec] at hj; subst hj; exact q.c0
    | 1, _ => simp [ec] at hj; subst hj; have := q.c1; rwa [Nat.add_assoc] at this
theorem own_base {w : World} {B B' : Nat} {e : TypeId} {s : Nat} {v : Value} {n : Nat} {xs : List Value} (h : w.ownsRow B e s v n xs) (hb : B' ≤ B) : w.ownsRow B' e s v n xs := by
  refine ⟨h.1, ?_⟩
  rcases h.2 with h0 | ⟨g, c, cur, rfl, e1, e2, e3⟩
  · exact .inl h0
  · exact .inr ⟨g, c, cur, rfl, by omega, e2, e3⟩
theorem own_pos {w : World} {B : Nat} {e : TypeId} {s : Nat} {v : Value} {n : Nat} {xs : List Value} (h : w.ownsRow B e s v n xs) (hn : 0 < n) : ∃ g c, v = .slice (some ⟨g, 0, none⟩) n c := by
  rcases h.2 with ⟨_, h0⟩ | ⟨g, c, cur, rfl, _⟩
  · omega
  · exact ⟨g, c, rfl⟩
theorem own_sl {w : World} {B : Nat} {e : TypeId} {s : Nat} {v : Value} {n : Nat} {xs : List Value} (h : w.ownsRow B e s v n xs) : ∃ a c, v = .slice a n c := by
  rcases h.2 with ⟨rfl, rfl⟩ | ⟨g, c, cur, rfl, _⟩
  · exact ⟨none, 0, rfl⟩
  · exact ⟨_, c, rfl⟩
structure Cp (w W : World) (D g n c : Nat) (now : Int) (old dn : List Nv) : Prop where
  below : Below w.heap.size w W
  box : W.heap[D]? = some (.cells #[.slice (some ⟨g, 0, none⟩) n c, .int .i64 now] 230)
  hD : w.heap.size ≤ D
  len : old.length = n
  row : W.ownsRow w.heap.size 82 10 (.slice (some ⟨g, 0, none⟩) n c) n (cellsOf (dn ++ old.drop dn.length))
  own : ∀ x ∈ dn, Hd w.heap.size W x
  ap : dn.Pairwise Apt
  same : dn.map (·.1) = (old.take dn.length).map (·.1)
theorem Cp.step {w W W' : World} {D g n c : Nat} {now : Int} {old dn : List Nv} (h : Cp w W D g n c now old dn) (hb : Below W.heap.size W W') : Cp w W' D g n c now old dn :=
  ⟨h.below.trans (hb.mono h.below.size), (hb.block _ (Array.getElem?_eq_some_iff.1 h.box).1).trans h.box, h.hD, h.len, own_below h.row hb, fun x hx => (h.own x hx).below hb, h.ap, h.same⟩
theorem getD_mid (dn old : List Nv) (_hk : dn.length < old.length) : (dn ++ old.drop dn.length).getD dn.length zNv = old.getD dn.length zNv := by
  simp [List.getD, List.getElem?_append_right (Nat.le_refl _)]
theorem Cp.cell {w W : World} {D g n c : Nat} {now : Int} {old dn : List Nv} (h : Cp w W D g n c now old dn) (hk : dn.length < n) : W.cell? ⟨g, dn.length * 10 + 6, none⟩ = some (old.getD dn.length zNv).2.1 ∧ W.cell? ⟨g, dn.length * 10 + 8, none⟩ = some (old.getD dn.length zNv).2.2 := by
  have hl := h.len
  have e : ∀ j, j < 10 → W.cell? ⟨g, dn.length * 10 + j, none⟩ = (nc (old.getD dn.length zNv).1 (old.getD dn.length zNv).2.1 (old.getD dn.length zNv).2.2)[j]? := fun j hj => by
    rw [h.row.cellAt _ (by omega), cellsOf_get _ _ _ (by simp; omega) hj, getD_mid _ _ (by omega)]
  exact ⟨e 6 (by omega), e 8 (by omega)⟩
theorem set_mid (dn old : List Nv) (x : Nv) (hk : dn.length < old.length) : (dn ++ old.drop dn.length).set dn.length x = (dn ++ [x]) ++ old.drop (dn ++ [x]).length := by
  rw [List.set_append_right _ _ (Nat.le_refl _), Nat.sub_self]
  rw [show old.drop dn.length = old[dn.length] :: old.drop (dn.length + 1) from List.drop_eq_getElem_cons hk, List.set_cons_zero]
  simp
theorem Cp.more {w W : World} {D g n c : Nat} {now : Int} {old dn : List Nv} (h : Cp w W D g n c now old dn) (hk : dn.length < n) {v1 v2 : Value} {G1 G2 : Nat} (h1 : Row G1 v1 (old.getD dn.length zNv).1.data W) (h2 : RowE G2 v2 (old.getD dn.length zNv).1.list W) (hG1 : w.heap.size ≤ G1) (hG2 : w.heap.size ≤ G2)
    (ha1 : ∀ x ∈ dn, ∀ k, x.2.1.ownBlock = some k → k < G1) (ha2 : ∀ x ∈ dn, ∀ k, x.2.2.ownBlock = some k → k < G2) :
    Cp w ((W.setCell ⟨g, dn.length * 10 + 6, none⟩ v1).setCell ⟨g, dn.length * 10 + 8, none⟩ v2) D g n c now old (dn ++ [((old.getD dn.length zNv).1, v1, v2)]) := by
  have hl := h.len
  have hgo : w.heap.size ≤ g := (h.row.lt g rfl).1
  obtain ⟨cur, hcur⟩ := own_type h.row (k := g) rfl
  have s1 := (h.row.stored (dn.length * 10 + 6) v1).1
  have s2 := (s1.stored (dn.length * 10 + 8) v2).1
  have kp : ∀ (k : Nat), k ≠ g → ((W.setCell ⟨g, dn.length * 10 + 6, none⟩ v1).setCell ⟨g, dn.length * 10 + 8, none⟩ v2).heap[k]? = W.heap[k]? := fun k hk => by
    rw [heap_setCell_other _ ⟨g, _, none⟩ k _ hk, heap_setCell_other _ ⟨g, _, none⟩ k _ hk]
  have e0 : (dn ++ old.drop dn.length).getD dn.length zNv = old.getD dn.length zNv := getD_mid _ _ (by omega)
  have hcells : cellsOf ((dn ++ [((old.getD dn.length zNv).1, v1, v2)]) ++ old.drop (dn ++ [((old.getD dn.length zNv).1, v1, v2)]).length) = ((cellsOf (dn ++ old.drop dn.length)).set (dn.length * 10 + 6) v1).set (dn.length * 10 + 8) v2 := by
    rw [← set_mid dn old _ (by omega)]
    have q1 := cellsOf_set (dn ++ old.drop dn.length) dn.length 6 ((old.getD dn.length zNv).1, v1, (old.getD dn.length zNv).2.2) v1 (by simp; omega) (by omega) (by rw [e0]; rfl)
    rw [← q1]
    have q2 := cellsOf_set ((dn ++ old.drop dn.length).set dn.length ((old.getD dn.length zNv).1, v1, (old.getD dn.length zNv).2.2)) dn.length 8 ((old.getD dn.length zNv).1, v1, v2) v2 (by simp; omega) (by omega) (by
      have q : ∀ (L : List Nv) (x : Nv), dn.length < L.length → (L.set dn.length x).getD dn.length zNv = x := fun L x hL => by simp [List.getD, hL]
      rw [q _ _ (by simp; omega)]; rfl)
    rw [← q2, List.set_set]
  have hd : ∀ (x : Nv), Hd w.heap.size W x → Hd w.heap.size ((W.setCell ⟨g, dn.length * 10 + 6, none⟩ v1).setCell ⟨g, dn.length * 10 + 8, none⟩ v2) x := fun x hx =>
    hx.nodes fun k cur' hc => kp k (by rcases hc with hc | hc <;> exact obj_ne hc hcur (by decide))
  refine ⟨(h.below.setCell (p := ⟨g, _, none⟩) hgo _).setCell (p := ⟨g, _, none⟩) hgo _, (kp D (obj_ne h.box hcur (by decide))).trans h.box, h.hD, h.len, ?_, ?_, ?_, ?_⟩
  · rw [hcells]; exact s2
  · intro x hx
    rcases List.mem_append.1 hx with hx | hx
    · exact hd x (h.own x hx)
    · simp at hx; subst hx
      exact hd _ ⟨own_base h1 hG1, own_base h2 hG2⟩
  · rw [List.pairwise_append]
    refine ⟨h.ap, List.pairwise_singleton _ _, fun x hx y hy => ?_⟩
    simp at hy; subst hy
    exact ⟨fun k hk hk' => by have := ha1 x hx k hk; have := (h1.lt k hk').1; omega, fun k hk hk' => by have := ha2 x hx k hk; have := (h2.lt k hk').1; omega⟩
  · rw [List.map_append, h.same, List.length_append, List.length_singleton, List.take_succ_eq_append_getElem (by omega), List.map_append]
    simp [List.getD, List.getElem?_eq_getElem (show dn.length < old.length by omega)]
theorem Cp.first {w w1 : World} {g n c : Nat} {now : Int} {old : List Nv} (hb : Below w.heap.size w w1) (hv : w1.ownsRow w.heap.size 82 10 (.slice (some ⟨g, 0, none⟩) n c) n (cellsOf old)) (hl : old.length = n) :
    Cp w (w1.alloc (.cells #[.slice (some ⟨g, 0, none⟩) n c, .int .i64 now] 230)) w1.heap.size g n c now old [] := by
  refine ⟨hb.alloc hb.size _, heap_alloc_new w1 _, hb.size, hl, ?_, by simp, List.Pairwise.nil, by simp⟩
  simp only [List.length_nil, List.drop_zero, List.nil_append]
  exact hv.alloc _
theorem Cp.cells {w W : World} {D g n c : Nat} {now : Int} {old dn : List Nv} (h : Cp w W D g n c now old dn) : W.cell? ⟨D, 0, none⟩ = some (.slice (some ⟨g, 0, none⟩) n c) ∧ (∀ j, W.frozen? ⟨g, j, none⟩ = false) :=
  ⟨by rw [cell_of_row _ _ _ _ _ _ h.box]; rfl, fun j => h.row.frozenAt j⟩
theorem Cp.df {w W : World} {D g n c : Nat} {now : Int} {old dn : List Nv} (h : Cp w W D g n c now old dn) (hk : dn.length = n) : Df W w.heap.size D now (.slice (some ⟨g, 0, none⟩) n c) dn ∧ dn.map (·.1) = old.map (·.1) := by
  have hl := h.len
  have e : dn ++ old.drop dn.length = dn := by rw [List.drop_eq_nil_of_le (by omega), List.append_nil]
  have hr := h.row
  rw [e] at hr
  refine ⟨⟨h.box, h.hD, ?_, h.own, h.ap⟩, ?_⟩
  · show W.ownsRow _ _ _ _ dn.length _
    rw [hk]; exact hr
  · rw [h.same, List.take_of_length_le (by omega)]
set_option maxRecDepth 100000 in
set_option maxHeartbeats 2000000 in
theorem copied_any (A : Nat) (cs : Array Value) (a : Option Addr) (n cap : Nat) (ns : List Nd) (now : Int) (w : World) (hA : w.heap[A]? = some (.cells cs 101)) (h0 : cs[0]? = some (.slice a n cap)) (h1 : cs[1]? = some (.int .i64 now)) (h : Ng w a n cap ns) (hn : 0 < n) (hn2 : n ≤ 1000000) (hd : ∀ i, (nd ns i).data.length ≤ 100000000) (hl : ∀ i, (nd ns i).list.length ≤ 100000000) :
    Calls Tryz.prog 194 #[.pointer (some ⟨A, 0, none⟩)] w fun e w' => (∃ D v l, e = .returned (.pointer (some ⟨D, 0, none⟩)) ∧ Df w' w.heap.size D now v l ∧ l.map (·.1) = ns) ∧ Below w.heap.size w w' := by
  obtain ⟨old, hmap, hox, hcs⟩ := ng_nv h
  have hol : old.length = n := by rw [← h.len, ← hmap]; simp
  have HN : Hid (∀ W, Below w.heap.size w W → Calls Tryz.prog 245 #[.slice a n cap] W fun e w' => (∃ v, e = .returned v ∧ w'.ownsRow W.heap.size 82 10 v n (cellsOf old)) ∧ Below W.heap.size W w') := fun W hW =>
    copyNode_any a n cap (cellsOf old) W (by rw [cellsOf_length, hol]) (by omega) (nv_one hox) (by
      rcases hcs with hc | ⟨b, off, q1, q2, q3⟩
      · exact .inl hc
      · exact .inr ⟨b, off, q1, Nat.lt_of_lt_of_le q2 hW.size, fun j v hj => (hW.cell q2).trans (q3 j v hj)⟩)
  have hAl : A < w.heap.size := (Array.getElem?_eq_some_iff.1 hA).1
  have HA : Hid (∀ W, Below w.heap.size w W → W.cell? ⟨A, 0, none⟩ = some (.slice a n cap) ∧ W.cell? ⟨A, 1, none⟩ = some (.int .i64 now)) := fun W hW => by
    have q := (hW.block A hAl).trans hA
    exact ⟨by rw [cell_of_row _ _ _ _ _ _ q]; exact h0, by rw [cell_of_row _ _ _ _ _ _ q]; exact h1⟩
  have HOX : Hid (∀ x ∈ old, Ox w x) := hox
  have HM := hide hmap
  have HOL := hide hol
  have HD : Hid (∀ k, k < n → ∃ da dc la lc, (old.getD k zNv).2.1 = .slice da (nd ns k).data.length dc ∧ (old.getD k zNv).2.2 = .slice la (nd ns k).list.length lc ∧ By w da (nd ns k).data.length dc (nd ns k).data ∧ Eg w la (nd ns k).list.length lc (nd ns k).list ∧ (old.getD k zNv).1 = nd ns k) := fun k hk => by
    have hm : old.getD k zNv ∈ old := by simp [List.getD, List.getElem?_eq_getElem (show k < old.length by omega)]
    have he : (old.getD k zNv).1 = nd ns k := by rw [← hmap, nd_map old k (by omega)]
    obtain ⟨da, dc, la, lc, q1, q2, q3, q4⟩ := hox _ hm
    rw [he] at q1 q2 q3 q4
    exact ⟨da, dc, la, lc, q1, q2, q3, q4, he⟩
  have HDl := hide hd
  have HLl := hide hl
  clear hmap hox hcs hol h0 h1 h hd hl hA
  have hS0 : w.drew.cell? ⟨A, 0, none⟩ = some (.slice a n cap) ∧ w.drew.cell? ⟨A, 1, none⟩ = some (.int .i64 now) := uh HA w (Below.refl _ _)
  have HN0 := hide (uh HN w.drew (below_drew w 1))
  go_enter Tryz.func194, Tryz.ntmps194
  go_upto_region 1 with fail
  go_region_held3 (fun w' => w'.cell? ⟨A, 0, none⟩ = some (.slice a n cap) ∧ w'.cell? ⟨A, 1, none⟩ = some (.int .i64 now)) (with_reducible assumption)
    (first
      | ((with_reducible refine (uh HN0).mono ?_); rintro e w1 ⟨⟨v, rfl, hv⟩, b1⟩; obtain ⟨g, c, hvg⟩ := own_pos hv hn; subst hvg; have HV := hide hv; have HB1 := hide ((below_drew w 1).trans b1); have hS1 := uh HA w1 (uh HB1); have hS2 := uh HA (w1.alloc (.cells #[.slice (some ⟨g, 0, none⟩) n c, .int .i64 now] 230)) ((uh HB1).alloc (uh HB1).size _); clear hv b1)
      | fail)
  have HC := hide (Cp.first (now := now) (uh HB1) (uh HV) (uh HOL))
  obtain ⟨W2, hW2⟩ : ∃ W2, W2 = w1.alloc (.cells #[.slice (some ⟨g, 0, none⟩) n c, .int .i64 now] 230) := ⟨_, rfl⟩
  obtain ⟨D, hDe⟩ : ∃ D, D = w1.heap.size := ⟨_, rfl⟩
  rw [← hW2, ← hDe] at HC
  rw [← hW2, ← hDe]
  have d0 := (uh HC).cells.1
  clear hW2 hDe hS0 hS1 hS2 HV HB1 HN HN0 HA hAl
  go_wp2
  clear d0
  go_loopw [26] (fun i wr => ∃ (k : Nat) (dn : List Nv), k ≤ n ∧ i = .int .i64 k ∧ dn.length = k ∧ Hid (Cp w wr D g n c now old dn)) (fun i _ => n - (intOf i).toNat)
  case atStart => exact ⟨0, [], Nat.zero_le _, rfl, rfl, HC⟩
  case round =>
    obtain ⟨k, dn, hk, rfl, hdl, hcp⟩ := hrel
    by_cases hlt : k < n
    · have hlt' : (k : Int) < (n : Int) := by omega
      have d0 := (uh hcp).cells.1
      go_upto_region 6 with fail
      clear d0
      have hcd : Cp w wr.drew D g n c now old dn := (uh hcp).step (below_drew wr 1)
      obtain ⟨da, dc, la, lc, e1, e2, hby, heg, he⟩ := uh HD k hlt
      have HBy : Hid (∀ W, Below w.heap.size w W → Calls Tryz.prog 96 #[.slice da (nd ns k).data.length dc] W fun e w' => (∃ v, e = .returned v ∧ w'.ownsRow W.heap.size 5 1 v (nd ns k).data.length (Lib.byteCells (nd ns k).data)) ∧ Below W.heap.size W w') := fun W hW =>
        copyByte_any da _ dc (Lib.byteCells (nd ns k).data) W (by simp [Lib.byteCells]) (uh HDl k) (byteCells_one _) (byGet (hby.below hW))
      have HEn : Hid (∀ W, Below w.heap.size w W → Calls Tryz.prog 246 #[.slice la (nd ns k).list.length lc] W fun e w' => (∃ v, e = .returned v ∧ w'.ownsRow W.heap.size 116 2 v (nd ns k).list.length (entCells (nd ns k).list)) ∧ Below W.heap.size W w') := fun W hW =>
        copyEnt_any la _ lc (entCells (nd ns k).list) W (entCells_length _) (uh HLl k) (entCells_one _) (egGet (heg.below hW))
      have HCell : Hid (∀ W, Cp w W D g n c now old dn → W.cell? ⟨g, k * 10 + 6, none⟩ = some (.slice da (nd ns k).data.length dc) ∧ W.cell? ⟨g, k * 10 + 8, none⟩ = some (.slice la (nd ns k).list.length lc) ∧ W.frozen? ⟨g, k * 10 + 6, none⟩ = false ∧ W.frozen? ⟨g, k * 10 + 8, none⟩ = false) := fun W hW => by
        obtain ⟨q1, q2⟩ := hW.cell (by omega)
        rw [hdl, e1] at q1
        rw [hdl, e2] at q2
        exact ⟨q1, q2, hW.cells.2 _, hW.cells.2 _⟩
      have HE := hide he
      have HCD := hide hcd
      obtain ⟨z1, z2, z3, z4⟩ := uh HCell _ hcd
      have HB0 := hide (uh HBy wr.drew hcd.below)
      clear he hby heg e1 e2 hcd HC
      obtain ⟨dl, hdle⟩ : ∃ dl, dl = (nd ns k).data.length := ⟨_, rfl⟩
      obtain ⟨ll, hlle⟩ : ∃ ll, ll = (nd ns k).list.length := ⟨_, rfl⟩
      rw [← hdle] at HBy HCell HB0 z1
      rw [← hlle] at HEn HCell z2
      have HDLE := hide hdle
      have HLLE := hide hlle
      clear hdle hlle
      go_region_with
        (first
          | ((with_reducible refine (uh HB0).mono ?_); rintro e w3 ⟨⟨v1, rfl, hv1⟩, b3⟩; obtain ⟨a1, c1, hs1⟩ := own_sl hv1; subst hs1; have HV1 := hide hv1; have HC3 := hide ((uh HCD).step b3); obtain ⟨y1, y2, y3, y4⟩ := uh HCell _ (uh HC3); have HE3 := hide (uh HEn w3 (uh HC3).below); have HZ3 := hide b3.size; clear hv1 b3 HB0)
          | ((with_reducible refine (uh HE3).mono ?_); rintro e w4 ⟨⟨v2, rfl, hv2⟩, b4⟩; obtain ⟨a2, c2, hs2⟩ := own_sl hv2; subst hs2; have HV2 := hide hv2; have HV14 := hide (own_below (uh HV1) b4); have HC4 := hide ((uh HC3).step b4); obtain ⟨x1, x2, x3, x4⟩ := uh HCell _ (uh HC4); clear hv2 b4 HE3)
          | fail)
      all_goals
        have HM2 := hide ((uh HC4).more (v1 := .slice a1 dl c1) (v2 := .slice a2 ll c2) (G1 := wr.drew.heap.size) (G2 := w3.heap.size) (by omega) (by rw [hdl, uh HE]; show World.ownsRow _ _ _ _ _ _ _; rw [← uh HDLE]; exact uh HV14) (by rw [hdl, uh HE]; show World.ownsRow _ _ _ _ _ _ _; rw [← uh HLLE]; exact uh HV2) (uh HCD).below.size (uh HC3).below.size
          (fun x hx q hq => (((uh HCD).own x hx).1.lt q hq).2) (fun x hx q hq => (((uh HC3).own x hx).2.lt q hq).2))
        rw [hdl] at HM2
        clear HC4 HC3 HCD HV14 HV1 HV2 x1 x2 x3 x4 y1 y2 y3 y4 z1 z2 z3 z4 HCell HBy HEn
        go_wp2
        go_roundw
        case rel => exact ⟨k + 1, _, by omega, by go_num, by rw [List.length_append, hdl]; rfl, HM2⟩
        case measure => simp [intOf]; omega
    · obtain rfl : k = n := by omega
      obtain ⟨q1, q2⟩ := (uh hcp).df hdl
      have Q1 := hide q1
      have Q2 := hide (q2.trans (uh HM))
      have Q3 := hide (uh hcp).below
      clear q1 q2
      go_wp2
      go_ret
      exact ⟨⟨D, _, dn, rfl, uh Q1, uh Q2⟩, uh Q3⟩
end Go.Proofs.YtidhceebafmlkaaGreatDoor.Ca

namespace Go.Proofs.YtidhceebafmlkaaGreatDoor.Ca
open Go.RowKit Cu Tr
theorem rc {P : Program} {md : Region.Mode} {ops : Array Oper} {Q : Exit → Act → World → Prop} {S : World → Prop} {fuel : Nat} {listed : Array Bool} {a : Act} {w : World} {i : Nat} {o : Oper} (ho : ops[i]? = some o) (h : ∀ K' : Act → World → Prop, Shut (∀ a w, S w → (S w → wpAnyH P md ops Q S fuel (listed.setIfInBounds i true) a w) → K' a w) → if Region.wanted o (yielded ops a.tmps) = true then Oper.wp P o a w K' Q else K' (a.put o.dst undef) w) : AllReadyH P md ops Q S fuel listed a w [i] := AllReadyH.cons ho h AllReadyH.nil
theorem tk {P : Program} {ops : Array Oper} {md : Region.Mode} {Q : Exit → Act → World → Prop} {S : World → Prop} (i : Nat) {oi : Oper} {v : Value} {fuel : Nat} {listed : Array Bool} {a : Act} {w : World} (hi : ops[i]? = some oi)
    (hy : YieldsIf P ops S oi v a) (h : wpAnyH P md ops Q S fuel (listed.setIfInBounds i true) (a.put oi.dst v) w) (hs : Region.noSelect ops = true := by kernel_rfl) (hf : Region.free md ops listed i = true := by kernel_rfl) (hr : (Region.ready md ops listed).contains i = true := by kernel_rfl)
    (hQ : ∀ c a w, Q (.panic c) (a.put oi.dst v) w → Q (.panic c) a w := by exact fun _ _ _ h => h) (hS : S w := by assumption) : wpAnyH P md ops Q S (fuel + 1) listed a w := wpAnyH_take hi hs hf hr hQ hy hS h
theorem pS : (∀ (a : Act) (d : Tmp) (v : Value), a.put (some d) v = { a with tmps := a.tmps.setIfInBounds d v }) ∧ (∀ (a : Act) (v : Value), a.put none v = a) ∧
    (∀ {α : Type} (xs : List α) (i : Nat) (h : i < xs.toArray.size), xs.toArray[i] = xs[i]'(by simpa using h)) ∧
    (∀ {α : Type} (x : α) (l : List α) (h : 0 < (x :: l).length), (x :: l)[0] = x) ∧
    (∀ {α : Type} (x : α) (l : List α) (i : Nat) (h : i + 1 < (x :: l).length), (x :: l)[i + 1] = l[i]'(by simpa using h)) ∧
    (∀ {α : Type} (l : List α) (i : Nat) (x : α), l.toArray.setIfInBounds i x = (l.set i x).toArray) ∧
    (∀ {α : Type} (x y : α) (l : List α), (x :: l).set 0 y = y :: l) ∧ (∀ {α : Type} (x y : α) (l : List α) (i : Nat), (x :: l).set (i + 1) y = x :: l.set i y) :=
  ⟨fun _ _ _ => rfl, fun _ _ => rfl, fun _ _ _ => rfl, fun _ _ _ => rfl, fun _ _ _ _ => rfl, fun _ _ _ => by simp, fun _ _ _ => rfl, fun _ _ _ _ => rfl⟩
theorem Apt.symm {x y : Nv} (h : Apt x y) : Apt y x := ⟨fun k hk hx => h.1 k hx hk, fun k hk hx => h.2 k hx hk⟩
theorem pairwise_set {α : Type} {R : α → α → Prop} {l : List α} (h : l.Pairwise R) (i : Nat) (x : α) (hx : ∀ k (hk : k < l.length), k ≠ i → R l[k] x ∧ R x l[k]) : (l.set i x).Pairwise R := by
  rw [List.pairwise_iff_getElem] at h ⊢
  intro a b ha hb hab
  rw [List.length_set] at ha hb
  rw [List.getElem_set, List.getElem_set]
  split
  · rw [if_neg (by omega)]; exact (hx b hb (by omega)).2
  · split
    · exact (hx a ha (by omega)).1
    · exact h a b ha hb hab
theorem getD_nv {l : List Nv} {k : Nat} (hk : k < l.length) : l.getD k zNv = l[k] := by simp [List.getD, hk]
theorem Df.size {w : World} {B D : Nat} {now : Int} {v : Value} {l : List Nv} (h : Df w B D now v l) : D < w.heap.size := (Array.getElem?_eq_some_iff.1 h.box).1
theorem Df.at {w : World} {B D : Nat} {now : Int} {v : Value} {l : List Nv} (h : Df w B D now v l) (hl : 0 < l.length) : ∃ g c, v = .slice (some ⟨g, 0, none⟩) l.length c := own_pos h.row hl
theorem Df.cells {w : World} {B D : Nat} {now : Int} {v : Value} {l : List Nv} (h : Df w B D now v l) : w.cell? ⟨D, 0, none⟩ = some v ∧ w.cell? ⟨D, 1, none⟩ = some (.int .i64 now) ∧ w.frozen? ⟨D, 0, none⟩ = false := by
  refine ⟨?_, ?_, ?_⟩
  · rw [cell_of_row _ _ _ _ _ _ h.box]; rfl
  · rw [cell_of_row _ _ _ _ _ _ h.box]; rfl
  · simp [World.frozen?, h.box]
theorem Df.lenN {w : World} {B D g n c : Nat} {now : Int} {l : List Nv} (h : Df w B D now (.slice (some ⟨g, 0, none⟩) n c) l) : n = l.length := by
  rcases h.row.2 with ⟨h0, _⟩ | ⟨g', c', cur, h1, _⟩
  · cases h0
  · injection h1
theorem Df.rown {w : World} {B D g n c : Nat} {now : Int} {l : List Nv} (h : Df w B D now (.slice (some ⟨g, 0, none⟩) n c) l) : w.ownsRow B 82 10 (.slice (some ⟨g, 0, none⟩) n c) n (cellsOf l) := by
  have e := h.lenN
  have q := h.row
  show World.ownsRow _ _ _ _ _ _ _
  rw [e] at q ⊢
  exact q
theorem Df.cell {w : World} {B D g n c : Nat} {now : Int} {l : List Nv} (h : Df w B D now (.slice (some ⟨g, 0, none⟩) n c) l) (i j : Nat) (hi : i < l.length) (hj : j < 10) : w.cell? ⟨g, i * 10 + j, none⟩ = (nc (l.getD i zNv).1 (l.getD i zNv).2.1 (l.getD i zNv).2.2)[j]? := by
  have e := h.lenN
  rw [h.rown.cellAt _ (by omega), cellsOf_get _ _ _ hi hj]
theorem Df.frozen {w : World} {B D g n c : Nat} {now : Int} {l : List Nv} (h : Df w B D now (.slice (some ⟨g, 0, none⟩) n c) l) (j : Nat) : w.frozen? ⟨g, j, none⟩ = false := h.rown.frozenAt j
theorem Df.ne {w : World} {B D g n c : Nat} {now : Int} {l : List Nv} (h : Df w B D now (.slice (some ⟨g, 0, none⟩) n c) l) : D ≠ g ∧ B ≤ g ∧ g < w.heap.size := by
  obtain ⟨cur, hcur⟩ := own_type h.row (k := g) rfl
  exact ⟨obj_ne h.box hcur (by decide), (h.row.lt g rfl).1, (h.row.lt g rfl).2⟩
theorem Df.set {w : World} {B D g n c : Nat} {now : Int} {l : List Nv} (h : Df w B D now (.slice (some ⟨g, 0, none⟩) n c) l) (i j : Nat) (u : Value) (x' : Nv) (hi : i < l.length) (hj : j < 10)
    (he : nc x'.1 x'.2.1 x'.2.2 = (nc (l.getD i zNv).1 (l.getD i zNv).2.1 (l.getD i zNv).2.2).set j u) (hH : Hd B w x') (hA : ∀ k, k < l.length → k ≠ i → Apt (l.getD k zNv) x') :
    Df (w.setCell ⟨g, i * 10 + j, none⟩ u) B D now (.slice (some ⟨g, 0, none⟩) n c) (l.set i x') := by
  obtain ⟨cur, hcur⟩ := own_type h.row (k := g) rfl
  have kp : ∀ (k : Nat), k ≠ g → (w.setCell ⟨g, i * 10 + j, none⟩ u).heap[k]? = w.heap[k]? := fun k hk => heap_setCell_other _ ⟨g, _, none⟩ k _ hk
  have hd : ∀ (x : Nv), Hd B w x → Hd B (w.setCell ⟨g, i * 10 + j, none⟩ u) x := fun x hx =>
    hx.nodes fun k cur' hc => kp k (by rcases hc with hc | hc <;> exact obj_ne hc hcur (by decide))
  refine ⟨(kp D (obj_ne h.box hcur (by decide))).trans h.box, h.hD, ?_, ?_, ?_⟩
  · show World.ownsRow _ _ _ _ _ _ _
    rw [List.length_set, cellsOf_set l i j x' u hi hj he]
    have e := h.lenN
    have q := (h.rown.stored (i * 10 + j) u).1
    rw [e] at q ⊢
    exact q
  · intro x hx
    rcases List.mem_or_eq_of_mem_set hx with hx | rfl
    · exact hd x (h.own x hx)
    · exact hd _ hH
  · exact pairwise_set h.ap i x' fun k hk hne => by
      have q := hA k hk hne
      rw [getD_nv hk] at q
      exact ⟨q, q.symm⟩
theorem Df.apt {w : World} {B D : Nat} {now : Int} {v : Value} {l : List Nv} (h : Df w B D now v l) (i : Nat) (hi : i < l.length) (k : Nat) (hk : k < l.length) (hne : k ≠ i) : Apt (l.getD k zNv) (l.getD i zNv) := by
  rw [getD_nv hk, getD_nv hi]
  have q := List.pairwise_iff_getElem.1 h.ap
  by_cases hlt : k < i
  · exact q k i hk hi hlt
  · exact (q i k hi hk (by omega)).symm
theorem Df.hd {w : World} {B D : Nat} {now : Int} {v : Value} {l : List Nv} (h : Df w B D now v l) (i : Nat) (hi : i < l.length) : Hd B w (l.getD i zNv) := h.own _ (by rw [getD_nv hi]; exact List.getElem_mem hi)
theorem Df.num {w : World} {B D g n c : Nat} {now : Int} {l : List Nv} (h : Df w B D now (.slice (some ⟨g, 0, none⟩) n c) l) (i j : Nat) (u : Value) (y : Nd) (hi : i < l.length) (hj : j < 10)
    (he : nc y (l.getD i zNv).2.1 (l.getD i zNv).2.2 = (nc (l.getD i zNv).1 (l.getD i zNv).2.1 (l.getD i zNv).2.2).set j u) (hd : y.data = (l.getD i zNv).1.data) (hls : y.list = (l.getD i zNv).1.list) :
    Df (w.setCell ⟨g, i * 10 + j, none⟩ u) B D now (.slice (some ⟨g, 0, none⟩) n c) (l.set i (y, (l.getD i zNv).2)) := by
  refine h.set i j u _ hi hj he ?_ (fun k hk hne => h.apt i hi k hk hne)
  obtain ⟨h1, h2⟩ := h.hd i hi
  exact ⟨by show World.ownsRow _ _ _ _ _ _ _; simp only [hd]; exact h1, by show World.ownsRow _ _ _ _ _ _ _; simp only [hls]; exact h2⟩
theorem set_fst (l : List Nv) (i : Nat) (x : Nv) : (l.set i x).map (·.1) = (l.map (·.1)).set i x.1 := by
  rw [List.map_set]
theorem getD_fst (l : List Nv) (i : Nat) (hi : i < l.length) : (l.getD i zNv).1 = nd (l.map (·.1)) i := by
  rw [getD_nv hi]; simp [nd, List.getD, hi]
theorem upd_fst (l : List Nv) (i : Nat) (hi : i < l.length) (f : Nd → Nd) (a : Value × Value) : (l.set i (f (l.getD i zNv).1, a)).map (·.1) = upd (l.map (·.1)) i f := by
  rw [set_fst, upd, getD_fst l i hi]
theorem pos_is (es : List En) (s : ByteArray) (k : Nat) (hk : k ≤ es.length) (h1 : ∀ j, j < k → bs (en es j).name < bs s) (h2 : k < es.length → ¬ bs (en es k).name < bs s) : posE es s = k := by
  unfold posE
  induction es generalizing k with
  | nil => simp at hk; subst hk; rfl
  | cons e l ih =>
    cases k with
    | zero =>
      have q := h2 (by simp)
      have q2 : ltB e.name s = false := by
        cases hx : ltB e.name s
        · rfl
        · exact absurd ((ltB_iff _ _).1 hx) q
      simp [q2]
    | succ k =>
      have q := h1 0 (by omega)
      have q2 : ltB e.name s = true := (ltB_iff _ _).2 q
      rw [List.takeWhile_cons, if_pos q2, List.length_cons, ih k (by simpa using hk) (fun j hj => h1 (j + 1) (by omega)) (fun hj => h2 (by simpa using hj))]
theorem bs_irrefl (a : Bs) : ¬ a < a := List.lt_irrefl a
set_option maxRecDepth 100000 in
set_option maxHeartbeats 400000 in
theorem place_any (a : Option Addr) (n cap : Nat) (es : List En) (t : ByteArray) (w : World) (h : Eg w a n cap es) (hr : Rises es) (hn : n ≤ 1000000) :
    Calls Tryz.prog 248 #[.slice a n cap, .string t] w fun e w' => e = .returned (.tuple #[.int .i64 (posE es t), .bool (hasE es t)]) ∧ Below w.heap.size w w' := by
  have hln := h.len
  have HC : Hid (Calls Tryz.prog 113 #[.slice a n cap, .string t, fnFC] w fun e w' => e = .returned (.tuple #[.int .i64 (posE es t), .bool (hasE es t)]) ∧ Below w.heap.size w w') :=
    (searchC_any a n cap es t w h hr hn).mono fun e w' q => by
      refine ⟨?_, q.1⟩
      rcases q.2 with ⟨k, hk, rfl, h1, h2⟩ | ⟨k, hk, rfl, h1, h2, h3⟩
      · have hp : posE es t = k := pos_is es t k (by omega) h2 (fun _ => by rw [h1]; exact bs_irrefl _)
        have hh : hasE es t = true := by unfold hasE; rw [hp, h1]; simp; omega
        rw [hp, hh]
      · have hp : posE es t = k := pos_is es t k (by omega) h2 (fun hk' => h3 k (Nat.le_refl _) (by omega))
        have hh : hasE es t = false := by
          unfold hasE; rw [hp]
          by_cases hkn : k < n
          · simp [h1 k hkn]
          · simp; omega
        rw [hp, hh]
  generalize posE es t = pp at *
  generalize hasE es t = hh at *
  clear h hr hln
  go_enter Tryz.func248, Tryz.ntmps248
  go_wp2_with fail
  refine (uh HC).mono ?_
  rintro e w1 ⟨rfl, b1⟩
  have HB := hide b1
  clear b1 HC
  go_wp2
  go_ret2
  exact ⟨rfl, uh HB⟩
end Go.Proofs.YtidhceebafmlkaaGreatDoor.Ca
