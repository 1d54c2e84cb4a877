/- slices.Delete and slices.Insert at texts, in the words of rows. -/
import Derived.Test.YtjkajhnnoecjbaaDoorVwPaste
import Derived.Test.YtjkajhnnoecjbaaDoorVwLay
import Derived.Test.YtjkajhnnoecjbaaDoorVwShelf
import Derived.Sort.OwnSorted
set_option linter.unusedVariables false
namespace Go.Proofs.YtjkajhnnoecjbaaDoor.Vw
open Go.RowKit Go.Shelf Go.Sort Cu
open Pa (Tx tot)

theorem encStr_bt (x : Bs) : encStr x = .string (bt x) := rfl
theorem enc_map (fs : List Bs) : fs.map encStr = fs.map fun x => Value.string (bt x) := rfl
theorem below_setCells (B b : Nat) (hb : B ≤ b) : ∀ (vs : List Value) (o : Nat) (w w0 : World), Below B w0 w → Below B w0 (w.setCells b o vs)
  | [], _, _, _, h => h
  | v :: r, o, w, w0, h => by
    rw [World.setCells]
    exact below_setCells B b hb r (o + 1) _ w0 (h.setCell (p := ⟨b, o, none⟩) hb v)
theorem size_setCells (b : Nat) : ∀ (vs : List Value) (o : Nat) (w : World), (w.setCells b o vs).heap.size = w.heap.size
  | [], _, _ => rfl
  | v :: r, o, w => by rw [World.setCells, size_setCells b r]; simp
theorem own_short {w : World} {B g cap n k : Nat} {e : TypeId} {xs : List Value} (h : w.ownsRow B e 1 (.slice (some ⟨g, 0, none⟩) n cap) n xs) (hk : k ≤ n) : w.ownsRow B e 1 (.slice (some ⟨g, 0, none⟩) k cap) k (xs.take k) := by
  rcases h.2 with ⟨h1, _⟩ | ⟨g', cap', cur, hv, hb, hg, h1, h2, h3, h4⟩
  · simp at h1
  · simp at hv
    obtain ⟨rfl, rfl⟩ := hv
    have hl := h.1
    refine ⟨by rw [List.length_take, hl]; omega, .inr ⟨g, cap, cur, rfl, hb, hg, by omega, h2, h3, ?_⟩⟩
    rw [← h4, List.take_take, Nat.mul_one, Nat.mul_one, Nat.min_eq_left hk]

theorem delete_any {B : Nat} (g cap i : Nat) (fs : List Bs) (w : World) (hO : RowT B (.slice (some ⟨g, 0, none⟩) fs.length cap) fs w) (hi : i < fs.length) :
    Calls Tryd.prog 107 #[.slice (some ⟨g, 0, none⟩) fs.length cap, .int .i64 i, .int .i64 ((i + 1 : Nat) : Int)] w fun e w' => e = .returned (.slice (some ⟨g, 0, none⟩) (fs.length - 1) cap) ∧ RowT B (.slice (some ⟨g, 0, none⟩) (fs.eraseIdx i).length cap) (fs.eraseIdx i) w' ∧ Below B w w' ∧ (fs.eraseIdx i).length = fs.length - 1 := by
  rcases hO.2 with ⟨h1, _⟩ | ⟨g', cap', cur, hv, hb, hg, h1, h2, h3, h4⟩
  · simp at h1
  · simp at hv
    obtain ⟨rfl, rfl⟩ := hv
    have hel : (fs.eraseIdx i).length = fs.length - 1 := by rw [List.length_eraseIdx, if_pos hi]
    refine (Tryd.slices_Delete_string g 0 cap i (i + 1) fs w (holds_of_block hg (by rw [← Nat.mul_one fs.length, h4])) h1 (by unfold maxLen at h2; omega) (by omega) (by omega)).mono ?_
    rintro e w' ⟨rfl, q, rfl⟩
    have hlen : (fs.take i ++ fs.drop (i + 1) ++ List.replicate (i + 1 - i) []).length = fs.length := by simp; omega
    have hs := ownsRow_sorted (n := q) (os := #[]) (base := B) hlen hb hg h1 h2 h3
    have hgb := grownBy_sorted (w := w) (g := g) (n := q) (os := #[]) (fs.take i ++ fs.drop (i + 1) ++ List.replicate (i + 1 - i) []).toArray
    rw [grow_empty] at hs hgb
    refine ⟨by rw [show i + 1 - i = 1 by omega], ?_, (Below.refl B w).grown hgb ?_ ?_, hel⟩
    · have hs2 := own_short hs (k := fs.length - 1) (by omega)
      unfold RowT
      rw [hel]
      have e1 : ((fs.take i ++ fs.drop (i + 1) ++ List.replicate (i + 1 - i) []).map encStr).take (fs.length - 1) = (fs.eraseIdx i).map fun x => Value.string (bt x) := by
        rw [← List.map_take, List.take_append_of_le_length (by simp; omega), List.take_of_length_le (by simp; omega), ← List.eraseIdx_eq_take_drop_succ]
      rw [← e1]
      exact hs2
    · have := (Array.getElem?_eq_some_iff.1 hg).1
      omega
    · intro k hk
      obtain rfl := Option.some.inj hk
      exact hb

/-- a block whose first cells are these -/
theorem tx_cells {w : World} {b n cap : Nat} {fs : List Bs} (hl : fs.length = n) (hn : n ≤ cap) (hb : b < w.heap.size) (h : ∀ j (hj : j < n), w.cell? ⟨b, j, none⟩ = some (.string (bt (fs[j]'(by omega))))) : Tx w (some ⟨b, 0, none⟩) n cap (fs.map bt) := by
  refine ⟨by rw [List.length_map, hl], hn, (by intro e; cases e), .inr ⟨b, 0, rfl, hb, fun i hi => ?_⟩⟩
  rw [Nat.zero_add, h i hi]
  simp [List.getD, List.getElem?_map, List.getElem?_eq_getElem (show i < fs.length by omega)]
theorem one_all (fs : List Bs) : ∀ v ∈ fs.map (fun x => Value.string (bt x)), v.oneCell' = true := by
  intro v hv
  obtain ⟨x, _, rfl⟩ := List.mem_map.1 hv
  rfl
/-- the cells behind two stores, one behind the other -/
theorem two_in {w : World} {b : Nat} {x : Value} {cs : List Value} (h : ∀ j, j < cs.length + 1 → (w.cell? ⟨b, j, none⟩).isSome = true) (j : Nat) (hj : j < cs.length + 1) :
    ((w.setCells b 1 cs).setCells b 0 [x]).cell? ⟨b, j, none⟩ = (x :: cs)[j]? := by
  cases j with
  | zero =>
    have := World.cell?_setCells_in b [x] 0 (w.setCells b 1 cs) (fun k hk => by
      obtain rfl : k = 0 := by simpa using hk
      rw [World.cell?_setCells_out b cs 1 w _ (fun _ _ => .inl (by simp))]
      exact h 0 (by omega)) 0 (by simp)
    simpa using this
  | succ j =>
    rw [World.cell?_setCells_out b [x] 0 _ _ (fun _ _ => .inr (by simp))]
    have := World.cell?_setCells_in b cs 1 w (fun k hk => by rw [Nat.add_comm]; exact h (k + 1) (by omega)) j (by omega)
    rw [Nat.add_comm j 1, this, Nat.add_comm 1 j, List.getElem?_cons_succ, List.getElem?_eq_getElem]
theorem two_in' {w : World} {b : Nat} {x : Value} {cs : List Value} (h : ∀ j, j < cs.length + 1 → (w.cell? ⟨b, j, none⟩).isSome = true) (j : Nat) (hj : j < cs.length + 1) :
    ((w.setCells b 0 [x]).setCells b 1 cs).cell? ⟨b, j, none⟩ = (x :: cs)[j]? := by
  have hs : ∀ k, k < cs.length + 1 → ((w.setCells b 0 [x]).cell? ⟨b, k, none⟩).isSome = true := fun k hk => isSome_setCells b [x] 0 w (fun i hi => by
    obtain rfl : i = 0 := by simpa using hi
    exact h 0 (by omega)) k (h k hk)
  cases j with
  | zero =>
    rw [World.cell?_setCells_out b cs 1 _ _ (fun _ _ => .inl (by simp))]
    have := World.cell?_setCells_in b [x] 0 w (fun k hk => by
      obtain rfl : k = 0 := by simpa using hk
      exact h 0 (by omega)) 0 (by simp)
    simpa using this
  | succ j =>
    have := World.cell?_setCells_in b cs 1 (w.setCells b 0 [x]) (fun k hk => by rw [Nat.add_comm]; exact hs (k + 1) (by omega)) j (by omega)
    rw [Nat.add_comm j 1, this, Nat.add_comm 1 j, List.getElem?_cons_succ, List.getElem?_eq_getElem]
theorem row_at (fs : List Bs) (j : Nat) (hj : j < fs.length) : (fs.map fun x => Value.string (bt x))[j]? = some (.string (bt fs[j])) := by
  simp [List.getElem?_map, List.getElem?_eq_getElem hj]
theorem cons_at (fs : List Bs) (j : Nat) (hj : j < (([] : Bs) :: fs).length) : (Value.string { data := #[] } :: fs.map fun x => Value.string (bt x))[j]? = some (.string (bt ((([] : Bs) :: fs)[j]))) := by
  cases j with
  | zero => rfl
  | succ j => rw [List.getElem?_cons_succ, row_at fs j (by simpa using hj)]; rfl

theorem grown_none (V : World) (B : Nat) {w : World} (hB1 : Below B w V) (hB : B ≤ V.heap.size) :
    ∃ a cap, Ending.returned (.slice (some ⟨V.heap.size, 0, none⟩) (0 + 1) (grownCap V (0 + 1) 0 (Tryd.iren.t 9))) = .returned (.slice a (([] : List Bs).length + 1) cap) ∧
      Tx (V.drew.alloc (.cells (([] ++ [Value.string { data := #[] }]).toArray ++ Builtin.zeroCells (Value.string ⟨#[]⟩).cells (grownCap V (0 + 1) 0 (Tryd.iren.t 9) - (0 + 1))) (Tryd.iren.t 9))) a (([] : List Bs).length + 1) cap ((([] : Bs) :: []).map bt) ∧
      Below B w (V.drew.alloc (.cells (([] ++ [Value.string { data := #[] }]).toArray ++ Builtin.zeroCells (Value.string ⟨#[]⟩).cells (grownCap V (0 + 1) 0 (Tryd.iren.t 9) - (0 + 1))) (Tryd.iren.t 9))) := by
  refine ⟨_, _, rfl, tx_cells (fs := [[]]) rfl (grownCap_ge V (0 + 1) 0 (Tryd.iren.t 9)) (by show _ < (V.drew.alloc _).heap.size; rw [World.size_alloc]; exact Nat.lt_succ_self _) (fun j hj => ?_), hB1.drew.alloc hB _⟩
  obtain rfl : j = 0 := by simpa using hj
  have := heap_alloc_new V.drew (.cells (([] ++ [Value.string { data := #[] }]).toArray ++ Builtin.zeroCells (Value.string ⟨#[]⟩).cells (grownCap V (0 + 1) 0 (Tryd.iren.t 9) - (0 + 1))) (Tryd.iren.t 9))
  rw [show (⟨V.heap.size, 0, none⟩ : Addr) = ⟨V.drew.heap.size, 0, none⟩ from rfl, Lib.cell_of_heap this]
  rw [Array.getElem?_append_left (by simp)]
  rfl

theorem insert_any {B : Nat} (v : Value) (fs : List Bs) (w : World) (hO : RowT B v fs w) (hBw : B ≤ w.heap.size) (hn : fs.length ≤ 1073741824) :
    Calls Tryd.prog 108 #[v, .int .i64 0, .slice (some ⟨w.heap.size, 0, none⟩) 1 1] (w.alloc (.cells #[.string { data := #[] }] 9)) fun e w' => ∃ a cap, e = .returned (.slice a (fs.length + 1) cap) ∧ Tx w' a (fs.length + 1) cap ((([] : Bs) :: fs).map bt) ∧ Below B w w' := by
  have hO1 : RowT B v fs (w.alloc (.cells #[.string { data := #[] }] 9)) := hO.alloc _
  have hB1 : Below B w (w.alloc (.cells #[.string { data := #[] }] 9)) := (Below.refl B w).alloc hBw _
  have hsz : (w.alloc (.cells #[.string { data := #[] }] 9)).heap.size = w.heap.size + 1 := by simp
  have hnew := heap_alloc_new w (.cells #[.string { data := #[] }] 9)
  have hvs : ∀ j u, [Value.string { data := #[] }][j]? = some u → (w.alloc (.cells #[.string { data := #[] }] 9)).cell? ⟨w.heap.size, 0 + j, none⟩ = some u := fun j u hj => by
    match j, hj with
    | 0, hj => simp at hj; subst hj; rw [Lib.cell_of_heap hnew]; rfl
  have h1v : ∀ u ∈ [Value.string { data := #[] }], u.oneCell' = true := by intro u hu; simp at hu; subst hu; rfl
  generalize hV : w.alloc (.cells #[.string { data := #[] }] 9) = V at *
  rcases hO1.2 with ⟨rfl, h0⟩ | ⟨g, cap, cur, hv, hb, hg, h1, h2, h3, h4⟩
  · obtain rfl : fs = [] := List.eq_nil_of_length_eq_zero h0
    refine (Any2.slices_Insert_string_end_grow Tryd.ilays none 0 0 w.heap.size 0 1 1 [] [.string { data := #[] }] V (by omega) (by omega) (by omega) (by omega) rfl rfl (fun _ => rfl) (fun a e => by cases e) hvs h1v).mono ?_
    rintro e w' ⟨rfl, rfl⟩
    exact grown_none V B hB1 (by omega)
  · subst hv
    have hgw : g < w.heap.size := (hO.lt g rfl).2
    have hgV : g < V.heap.size := by omega
    have hcell : ∀ j, j < cap → (V.cell? ⟨g, j, none⟩).isSome = true := fun j hj => by
      rw [Lib.cell_of_heap hg, Array.getElem?_eq_getElem (by omega)]; rfl
    have hfz : ∀ j, V.frozen? ⟨g, j, none⟩ = false := fun j => by simp [World.frozen?, hg]
    have hcs : ∀ j u, (fs.map fun x => Value.string (bt x))[j]? = some u → V.cell? ⟨g, 0 + j, none⟩ = some u := fun j u hj => by
      have hjl : j < fs.length := by
        rcases Nat.lt_or_ge j fs.length with h | h
        · exact h
        · rw [List.getElem?_eq_none (by simpa using h)] at hj; cases hj
      rw [Nat.zero_add, Lib.cell_of_heap hg, ← hj, ← h4, List.getElem?_take_of_lt (by omega), Array.getElem?_toList]
    have hlen : (fs.map fun x => Value.string (bt x)).length = fs.length := List.length_map ..
    by_cases hf : fs.length = 0
    · obtain rfl : fs = [] := List.eq_nil_of_length_eq_zero hf
      by_cases hc : cap = 0
      · subst hc
        refine (Any2.slices_Insert_string_end_grow Tryd.ilays (some ⟨g, 0, none⟩) 0 0 w.heap.size 0 1 1 [] [.string { data := #[] }] V (by omega) (by omega) (by omega) (by omega) rfl rfl (fun e => by cases e) (fun a e j u hj => by simp at hj) hvs h1v).mono ?_
        rintro e w' ⟨rfl, rfl⟩
        exact grown_none V B hB1 (by omega)
      · refine (Any2.slices_Insert_string_end_room Tryd.ilays g 0 0 cap w.heap.size 0 1 1 [.string { data := #[] }] V (by omega) (by omega) (by unfold maxLen at h2; omega) rfl (fun j hj => hcell _ (by omega)) (fun j hj => hfz _) hvs h1v).mono ?_
        rintro e w' ⟨rfl, rfl⟩
        refine ⟨_, _, rfl, tx_cells (fs := [[]]) rfl (by omega) (by rw [size_setCells]; exact hgV) (fun j hj => ?_), below_setCells B g hb _ _ _ _ hB1⟩
        obtain rfl : j = 0 := by simpa using hj
        have := World.cell?_setCells_in g [Value.string { data := #[] }] (0 + 0) V (fun k hk => hcell _ (by simp at hk; omega)) 0 (by simp)
        simpa using this
    · by_cases hc : fs.length + 1 ≤ cap
      · refine (Any2.slices_Insert_string_shift Tryd.ilays g 0 fs.length cap 0 w.heap.size 0 1 1 (fs.map fun x => Value.string (bt x)) [.string { data := #[] }] V (by omega) (by omega) (by omega) (by unfold maxLen at h2; omega) (by omega) hlen rfl hcs (fun j hj => hcell _ (by omega)) (fun j hj => hfz _) hvs (one_all fs) h1v 9 9 1 cur.size (by simp [World.shape?, hnew]) (by simp [World.shape?, hg]) (by omega) (by simp [World.frozen?, hnew]) (by simp [World.frozen?, hnew])).mono ?_
        rintro e w' ⟨rfl, rfl⟩
        refine ⟨_, _, rfl, tx_cells (fs := [] :: fs) rfl (by omega) (by rw [size_setCells, size_setCells]; exact hgV) (fun j hj => ?_), below_setCells B g hb _ _ _ _ (below_setCells B g hb _ _ _ _ hB1.drew)⟩
        have := two_in (w := V.drew) (b := g) (x := .string { data := #[] }) (cs := fs.map fun x => Value.string (bt x)) (fun k hk => hcell k (by omega)) j (by omega)
        rw [cons_at fs j (by simpa using hj)] at this
        simpa using this
      · refine (Any2.slices_Insert_string_grow Tryd.ilays g 0 fs.length cap 0 w.heap.size 0 1 1 (fs.map fun x => Value.string (bt x)) [.string { data := #[] }] V (by omega) (by omega) h1 (by omega) (by omega) hlen rfl hcs hvs (one_all fs) h1v).mono ?_
        rintro e w' ⟨rfl, rfl⟩
        have hge := grownCap_ge V (fs.length + 1) cap (Tryd.iren.t 9)
        obtain ⟨nz, hnz⟩ : ∃ nz, nz = ((fs.map fun x => Value.string (bt x)).take 0).toArray ++ Builtin.zeroCells (Value.string ⟨#[]⟩).cells (fs.length + 1 - 0) ++ Builtin.zeroCells (Value.string ⟨#[]⟩).cells (grownCap V (fs.length + 1) cap (Tryd.iren.t 9) - (fs.length + 1)) := ⟨_, rfl⟩
        have hnzs : fs.length + 1 ≤ nz.size := by
          have h1c : (Value.string { data := #[] }).cells.size = 1 := rfl
          rw [hnz]; simp [Builtin.zeroCells, h1c]
        rw [← hnz]
        have hnb := heap_alloc_new V (.cells nz (Tryd.iren.t 9))
        refine ⟨_, _, rfl, tx_cells (fs := [] :: fs) rfl (by omega) (by rw [size_setCells]; show _ < (World.setCells _ _ _ _).heap.size; rw [size_setCells]; show _ < (V.alloc _).heap.size; simp) (fun j hj => ?_), below_setCells B _ (by omega) _ _ _ _ (below_setCells B _ (by omega) _ _ _ _ (hB1.alloc (by omega) _).drew).drew⟩
        have := two_in' (w := (V.alloc (.cells nz (Tryd.iren.t 9))).drew) (b := V.heap.size) (x := .string { data := #[] }) (cs := fs.map fun x => Value.string (bt x)) (fun k hk => by
          show ((V.alloc _).cell? _).isSome = true
          rw [Lib.cell_of_heap hnb, Array.getElem?_eq_getElem (by omega)]; rfl) j (by omega)
        rw [cons_at fs j (by simpa using hj)] at this
        rw [Nat.zero_add, List.drop_zero, ← drew_setCells]
        exact this
end Go.Proofs.YtjkajhnnoecjbaaDoor.Vw
