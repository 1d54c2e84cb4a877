/- A new node, with its name, comes into a tree of one's own. -/
import Derived.Test.YtpcklgbcabpilaaGreatDoorCaLose
import Derived.Test.YtpcklgbcabpilaaGreatDoorCaAct2
import Derived.Maps.AppendAt
import Derived.BigRegion
namespace Go.Proofs.YtpcklgbcabpilaaGreatDoor.Ca
open Go.RowKit Go.Proofs.YtpcklgbcabpilaaGreatDoor.Cu Go.Proofs.YtpcklgbcabpilaaGreatDoor.Tr Go.Proofs.YtpcklgbcabpilaaGreatDoor.Pm Go.Proofs.YtpcklgbcabpilaaGreatDoor.Pt

theorem free_from (ns : List Nd) : ∀ (f j k : Nat), j ≤ k → k ≤ j + f → (∀ i, j ≤ i → i < k → i < ns.length ∧ (nd ns i).kind ≠ 0) → (k < ns.length → (nd ns k).kind = 0) → freeFrom ns f j = k
  | 0, j, k, h1, h2, _, _ => by unfold freeFrom; omega
  | f + 1, j, k, h1, h2, h3, h4 => by
    unfold freeFrom
    by_cases e : j = k
    · subst e
      rw [if_neg]
      rintro ⟨a, b⟩
      exact b (h4 a)
    · rw [if_pos (h3 j (Nat.le_refl _) (by omega))]
      exact free_from ns f (j + 1) k (by omega) (by omega) (fun i hi hk => h3 i (by omega) hk) h4
theorem free_is (ns : List Nd) (k : Nat) (h2 : 2 ≤ k) (hk : k ≤ ns.length ∨ k = 2) (h3 : ∀ i, 2 ≤ i → i < k → i < ns.length ∧ (nd ns i).kind ≠ 0) (h4 : k < ns.length → (nd ns k).kind = 0) : freeAt ns = k :=
  free_from ns ns.length 2 k h2 (by omega) h3 h4
/-- a tree of one's own; in boxes a place, and a node -/
structure Da (w0 W : World) (B D : Nat) (now : Int) (v : Value) (l : List Nv) (p : Pl) (x : Nd) : Prop where
  df : Df W B D now v l
  box : W.heap[w0.heap.size]? = some (.cells (pv p) 99)
  nbox : W.heap[w0.heap.size + 1]? = some (.cells (na x nl nl) 82)
  below : Below B w0 W
theorem Da.step {w0 W W' : World} {B D : Nat} {now : Int} {v : Value} {l : List Nv} {p : Pl} {x : Nd} (h : Da w0 W B D now v l p x) (hb : Below W.heap.size W W') (hB : B ≤ w0.heap.size) : Da w0 W' B D now v l p x :=
  ⟨h.df.below hb, (hb.block _ (Array.getElem?_eq_some_iff.1 h.box).1).trans h.box, (hb.block _ (Array.getElem?_eq_some_iff.1 h.nbox).1).trans h.nbox, h.below.trans (hb.mono (Nat.le_trans hB h.below.size))⟩
theorem Da.node {w0 W : World} {B D : Nat} {now : Int} {v : Value} {l : List Nv} {p : Pl} {x : Nd} (h : Da w0 W B D now v l p x) : N10 W (w0.heap.size + 1) 0 x nl nl := by
  have q : ∀ j, W.cell? ⟨w0.heap.size + 1, j, none⟩ = (na x nl nl)[j]? := fun j => cell_of_row _ _ _ _ _ _ h.nbox
  exact ⟨q 0, q 1, q 2, q 3, q 4, q 5, q 6, q 7, q 8, q 9⟩
theorem Da.place {w0 W : World} {B D : Nat} {now : Int} {v : Value} {l : List Nv} {d : Int} {nm : ByteArray} {no : Int} {bd : Bool} {x : Nd} (h : Da w0 W B D now v l ⟨d, nm, no, bd⟩ x) :
    W.cell? ⟨w0.heap.size, 0, none⟩ = some (.int .i64 d) ∧ W.cell? ⟨w0.heap.size, 1, none⟩ = some (.string nm) ∧ W.cell? ⟨w0.heap.size, 2, none⟩ = some (.int .i64 no) ∧ W.cell? ⟨w0.heap.size, 3, none⟩ = some (.bool bd) := by
  refine ⟨?_, ?_, ?_, ?_⟩
  all_goals (rw [cell_of_row _ _ _ _ _ _ h.box]; rfl)
theorem new_nz (w : World) : ∀ j u, (nc nz nl nl)[j]? = some u → (w.alloc (.cells (na nz (.slice none 0 0) (.slice none 0 0)) 82)).cell? ((⟨w.heap.size, 0, none⟩ : Addr).add j) = some u := fun j u hj => by
  rw [add_none, Nat.zero_add, cell_of_row _ _ _ _ _ _ (heap_alloc_new w _)]
  simpa [nc] using hj
theorem nz_one : ∀ u ∈ nc nz nl nl, u.oneCell' = true := by
  intro u hu
  simp only [nc, List.mem_cons, List.not_mem_nil, or_false] at hu
  rcases hu with rfl | rfl | rfl | rfl | rfl | rfl | rfl | rfl | rfl | rfl <;> rfl
theorem drew_heap (w : World) (k : Nat) : w.drew.heap[k]? = w.heap[k]? := rfl
theorem Df.dr {w : World} {B D : Nat} {now : Int} {v : Value} {l : List Nv} (h : Df w B D now v l) : Df w.drew B D now v l := h.below (below_drew w 1)
theorem Da.ne {w0 W : World} {B D g n c : Nat} {now : Int} {l : List Nv} {p : Pl} {x : Nd} (h : Da w0 W B D now (sg g n c) l p x) (hn : 2 ≤ n) : w0.heap.size ≠ g ∧ w0.heap.size + 1 ≠ g := by
  obtain ⟨cur, hcur⟩ := own_type h.df.row (k := g) rfl
  refine ⟨obj_ne h.box hcur (by decide), fun e => ?_⟩
  have q3 := h.nbox
  rw [e, hcur] at q3
  injection q3 with q3
  injection q3 with q3 _ _
  have q4 := congrArg Array.size q3
  rcases h.df.rown.2 with ⟨h0, _⟩ | ⟨g', c', cur', h1, _, h3, h4, _, h6, _⟩
  · cases h0
  · injection h1 with h1 _ h1c
    injection h1 with h1
    injection h1 with h1 _ _
    subst h1 h1c
    rw [hcur] at h3
    injection h3 with h3
    injection h3 with h3 _ _
    subst h3
    rw [h6] at q4
    simp at q4
    omega
theorem Da.put {w0 W : World} {B D g n c : Nat} {now : Int} {l : List Nv} {p : Pl} {x : Nd} (h : Da w0 W B D now (sg g n c) l p x) (hn : 2 ≤ n) (k : Nat) (hk : k < l.length) (hxd : x.data = []) (hxl : x.list = []) :
    Da w0 (((((((((((W.setCell ⟨g, k * 10, none⟩ (.int .u8 (x.kind.toNat : Int))).setCell ⟨g, k * 10 + 1, none⟩ (.int .i64 x.mode)).setCell ⟨g, k * 10 + 2, none⟩ (.int .i64 x.user)).setCell ⟨g, k * 10 + 3, none⟩ (.int .i64 x.group)).setCell ⟨g, k * 10 + 4, none⟩ (.int .i64 x.links)).setCell ⟨g, k * 10 + 5, none⟩ (.int .i64 x.time)).setCell ⟨g, k * 10 + 6, none⟩ (.slice none 0 0)).setCell ⟨g, k * 10 + 7, none⟩ (.string x.target)).setCell ⟨g, k * 10 + 8, none⟩ (.slice none 0 0)).setCell ⟨g, k * 10 + 9, none⟩ (.int .i64 x.parent))).drew B D now (sg g n c) (l.set k (x, nl, nl)) p x := by
  have hne := h.ne hn
  have hp := (h.df.put k hk x hxd hxl).dr
  exact ⟨hp, (drew_heap _ _).trans ((set10_other hne.1 (.int .u8 (x.kind.toNat : Int)) (.int .i64 x.mode) (.int .i64 x.user) (.int .i64 x.group) (.int .i64 x.links) (.int .i64 x.time) (.slice none 0 0) (.string x.target) (.slice none 0 0) (.int .i64 x.parent)).trans h.box), (drew_heap _ _).trans ((set10_other hne.2 (.int .u8 (x.kind.toNat : Int)) (.int .i64 x.mode) (.int .i64 x.user) (.int .i64 x.group) (.int .i64 x.links) (.int .i64 x.time) (.slice none 0 0) (.string x.target) (.slice none 0 0) (.int .i64 x.parent)).trans h.nbox), below_dr (set10_bel h.below (k * 10) h.df.ne.2.1 (.int .u8 (x.kind.toNat : Int)) (.int .i64 x.mode) (.int .i64 x.user) (.int .i64 x.group) (.int .i64 x.links) (.int .i64 x.time) (.slice none 0 0) (.string x.target) (.slice none 0 0) (.int .i64 x.parent))⟩
set_option maxRecDepth 100000 in
set_option maxHeartbeats 4000000 in
theorem add_any (B D : Nat) (now : Int) (v : Value) (l : List Nv) (d : Nat) (nm : ByteArray) (no : Int) (bd : Bool) (x : Nd) (w : World) (h : Df w B D now v l) (hB : B ≤ w.heap.size) (hd : d < l.length) (hdk : (l.getD d zNv).1.kind = 2) (h2 : 2 ≤ l.length) (hn6 : l.length ≤ 1000000) (hr : Rises (l.getD d zNv).1.list) (hll : (l.getD d zNv).1.list.length ≤ 100000) (hlk : -1000000000 ≤ (l.getD d zNv).1.links ∧ (l.getD d zNv).1.links ≤ 1000000000) (hxd : x.data = []) (hxl : x.list = []) :
    Calls Tryz.prog 195 #[.pointer (some ⟨D, 0, none⟩), .agg (pv ⟨(d : Int), nm, no, bd⟩), .agg (na x nl nl)] w fun e w' => e = .returned (.int .i64 (freeAt (l.map (·.1)))) ∧ (∃ v' l', Df w' B D now v' l' ∧ l'.map (·.1) = (addD now (l.map (·.1)) d nm x).1) ∧ Below B w w' := by
  obtain ⟨g, c, hvg⟩ := h.at (by omega)
  obtain ⟨n, hn⟩ : ∃ n, n = l.length := ⟨_, rfl⟩
  rw [← hn] at hvg
  subst hvg
  have hgw := h.ne.2.2
  have HDA : Hid (Da w ((w.alloc (.cells (pv ⟨(d : Int), nm, no, bd⟩) 99)).alloc (.cells (na x nl nl) 82)) B D now (sg g n c) l ⟨(d : Int), nm, no, bd⟩ x) := by
    have b1 := al_b w (.cells (pv ⟨(d : Int), nm, no, bd⟩) 99)
    have b2 := al_b (w.alloc (.cells (pv ⟨(d : Int), nm, no, bd⟩) 99)) (.cells (na x nl nl) 82)
    have b12 := b1.trans (b2.mono b1.size)
    refine ⟨h.below b12, (b2.block _ (by simp)).trans (heap_alloc_new w _), ?_, b12.mono hB⟩
    have q := heap_alloc_new (w.alloc (.cells (pv ⟨(d : Int), nm, no, bd⟩) 99)) (.cells (na x nl nl) 82)
    rwa [World.size_alloc] at q
  obtain ⟨W0, hW0⟩ : ∃ W0, W0 = (w.alloc (.cells (pv ⟨(d : Int), nm, no, bd⟩) 99)).alloc (.cells (na x nl nl) 82) := ⟨_, rfl⟩
  rw [← hW0] at HDA
  obtain ⟨cD0, -, fD0⟩ := (unhide HDA).df.cells
  have HK0 : Hid (∀ k, k < n → W0.cell? ⟨g, k * 10, none⟩ = some (.int .u8 (nd (l.map (·.1)) k).kind.toNat)) := fun k hk => by
    obtain ⟨a, b, dd, hx⟩ : ∃ a b dd, l.getD k zNv = (a, b, dd) := ⟨_, _, _, rfl⟩
    have q := ((unhide HDA).df.ten k (by omega) hx).c0
    rw [← getD_fst l k (by omega), hx]
    exact q
  have HNL : Hid ((l.map (·.1)).length = n) := by show _ = _; rw [List.length_map, hn]
  have HDK : Hid (∀ k, k < n → (nd (l.map (·.1)) k).kind = 0 → k ≠ d) := fun k hk h0 e => by
    subst e
    rw [← getD_fst l k (by omega), hdk] at h0
    exact absurd h0 (by decide)
  have HLN : Hid (n = l.length) := hn
  have HDD := hide hd
  have HRI := hide hr
  have HLL := hide hll
  have HLK := hide hlk
  have HBB := hide hB
  have HXD := hide hxd
  have HXL := hide hxl
  have HW0 := hide hW0
  have h2n : 2 ≤ n := by omega
  have h6n : n ≤ 1000000 := by omega
  clear h hW0 hd hdk h2 hn6 hr hll hlk hn hB hxd hxl
  unfold pv na
  simp only
  go_enter Tryz.func195, Tryz.ntmps195
  go_upto_block 0 with fail
  rw [show (w.alloc (.cells #[.int .i64 (d : Int), .string nm, .int .i64 no, .bool bd] 99)).alloc (.cells #[.int .u8 (x.kind.toNat : Int), .int .i64 x.mode, .int .i64 x.user, .int .i64 x.group, .int .i64 x.links, .int .i64 x.time, .slice none 0 0, .string x.target, .slice none 0 0, .int .i64 x.parent] 82) = W0 from (unhide HW0).symm]
  clear HW0
  go_cut [7] (fun u wx => W0 = wx ∧ ∃ k : Nat, 2 ≤ k ∧ k ≤ n ∧ u = .int .i64 k ∧ Hid (freeAt (l.map (·.1)) = k) ∧ Hid (k < n → (nd (l.map (·.1)) k).kind = 0))
  case first =>
    go_wp2_with fail
    go_loopw [7] (fun v7 wr => W0 = wr ∧ ∃ k : Nat, 2 ≤ k ∧ k ≤ n ∧ v7 = .int .i64 k ∧ Hid (∀ i, 2 ≤ i → i < k → i < n ∧ (nd (l.map (·.1)) i).kind ≠ 0)) (fun v7 _ => n - (intOf v7).toNat)
    case atStart => exact ⟨rfl, 2, Nat.le_refl _, h2n, rfl, fun i a b => absurd a (by omega)⟩
    case round =>
      obtain ⟨rfl, k, hk2, hkn, rfl, hf⟩ := hrel
      by_cases h1 : k < n
      · have h1' : (k : Int) < (n : Int) := by omega
        have c0 := unhide HK0 k h1
        by_cases h0 : (nd (l.map (·.1)) k).kind = 0
        · rw [h0] at c0
          have c0' : W0.cell? ⟨g, k * 10, none⟩ = some (.int .u8 0) := c0
          have HFR : Hid (freeAt (l.map (·.1)) = k) := free_is _ k hk2 (.inl (by rw [unhide HNL]; exact hkn)) (by rw [unhide HNL]; exact unhide hf) (fun _ => h0)
          have HK00 := hide h0
          clear c0 hf h0
          go_wp2_with fail
          go_meet
          exact ⟨rfl, k, hk2, hkn, rfl, HFR, fun _ => unhide HK00⟩
        · have hf2 : Hid (∀ i, 2 ≤ i → i < k + 1 → i < n ∧ (nd (l.map (·.1)) i).kind ≠ 0) := fun i a b => by
            by_cases e : i < k
            · exact unhide hf i a e
            · rw [show i = k by omega]; exact ⟨h1, h0⟩
          have hk3 : (((nd (l.map (·.1)) k).kind.toNat : Int) != 0) = true := by
            have : (nd (l.map (·.1)) k).kind.toNat ≠ 0 := fun e => h0 (UInt8.toNat_inj.1 e)
            simpa using this
          have hk4 : ¬ (((nd (l.map (·.1)) k).kind.toNat : Int) = 0) := by simpa using hk3
          generalize (nd (l.map (·.1)) k).kind.toNat = KN at *
          clear hf h0
          go_wp2_with fail
          go_roundw
          case rel => exact ⟨by simp, k + 1, by omega, by omega, by go_num, hf2⟩
          case measure => simp [intOf]; omega
      · have h1' : ¬ (k : Int) < (n : Int) := by omega
        have HFR : Hid (freeAt (l.map (·.1)) = k) := free_is _ k hk2 (.inl (by rw [unhide HNL]; exact hkn)) (by rw [unhide HNL]; exact unhide hf) (fun q => absurd q (by rw [unhide HNL]; exact h1))
        have HNE := hide h1
        clear hf
        go_wp2_with fail
        go_meet
        exact ⟨rfl, k, hk2, hkn, rfl, HFR, fun q => absurd q (unhide HNE)⟩
  case rest =>
    obtain ⟨rfl, k, hk2, hkn, rfl, HFR, HKZ⟩ := hcut
    go_upto_if 37 with fail
    go_cut [] (fun wx => ∃ (g2 n2 c2 : Nat) (l2 : List Nv), Hid (Da w wx B D now (sg g2 n2 c2) l2 ⟨(d : Int), nm, no, bd⟩ x) ∧ k < n2 ∧ n ≤ n2 ∧ n2 ≤ 1000001 ∧ Hid ((l2.set k (x, nl, nl)).map (·.1) = if k = n then l.map (·.1) ++ [x] else (l.map (·.1)).set k x) ∧ Hid (l2.getD d zNv = l.getD d zNv))
    case first =>
      by_cases hkn2 : k < n
      · have hne : ¬ ((k : Int) = (n : Int)) := by omega
        have hmap : Hid ((l.set k (x, nl, nl)).map (·.1) = if k = n then l.map (·.1) ++ [x] else (l.map (·.1)).set k x) := by
          show _ = _
          rw [set_fst, if_neg (by omega)]
        clear HKZ HFR HDK HRI HLL HLK HK0
        go_wp2_with fail
        go_meet
        exact ⟨g, n, c, l, HDA, hkn2, Nat.le_refl _, by omega, hmap, rfl⟩
      · obtain rfl : n = k := by omega
        obtain ⟨i0, hi, hz0, hz1, hz2⟩ := info_parts infoN
        have hRow := hide ((unhide HDA).df.rown.alloc (.cells (na nz (.slice none 0 0) (.slice none 0 0)) 82))
        have HBs := hide (Nat.le_trans (unhide HBB) (unhide HDA).below.size)
        have hne := hide ((unhide HDA).df.ne)
        have HGR : Hid (∀ (v' : Value) (w2 : World), w2.ownsRow B 82 10 v' (n + 1) (cellsOf l ++ nc nz nl nl) → (W0.alloc (.cells (na nz (.slice none 0 0) (.slice none 0 0)) 82)).grownBy w2 (some g) → (∃ g2 c2, v' = .slice (some ⟨g2, 0, none⟩) (n + 1) c2) ∧ Da w (w2.setCell ⟨D, 0, none⟩ v') B D now v' (l ++ [(nz, nl, nl)]) ⟨(d : Int), nm, no, bd⟩ x ∧ w2.cell? ⟨D, 0, none⟩ = some (sg g n c) ∧ w2.frozen? ⟨D, 0, none⟩ = false) := fun v' w2 hO hG => by
          have hb := al_b W0 (.cells (na nz (.slice none 0 0) (.slice none 0 0)) 82)
          have hA := (unhide HDA).step hb (unhide HBB)
          obtain ⟨g2, c2, rfl⟩ := own_pos hO (by omega)
          have q := hA.df.grow hO hG
          obtain ⟨cur, hcur⟩ := own_type hA.df.row (k := g) rfl
          have kk : ∀ (k : Nat) (c : Array Value) (e : TypeId), (W0.alloc (.cells (na nz (.slice none 0 0) (.slice none 0 0)) 82)).heap[k]? = some (.cells c e (0, 0)) → k ≠ g → w2.heap[k]? = (W0.alloc (.cells (na nz (.slice none 0 0) (.slice none 0 0)) 82)).heap[k]? := fun k c e hk hne => hG.block k (Array.getElem?_eq_some_iff.1 hk).1 (fun q => hne (by injection q))
          have hgN : w.heap.size + 1 ≠ g := by omega
          have hDN : w.heap.size + 1 ≠ D := fun e => by
            have q1 := hA.nbox
            rw [e, hA.df.box] at q1
            injection q1 with q1
            injection q1 with _ q1 _
            exact absurd q1 (by decide)
          have hDP : w.heap.size ≠ D := fun e => by
            have q1 := hA.box
            rw [e, hA.df.box] at q1
            injection q1 with q1
            injection q1 with _ q1 _
            exact absurd q1 (by decide)
          have hDg := hA.df.ne.1
          refine ⟨⟨g2, c2, rfl⟩, ⟨q, ?_, ?_, ?_⟩, ?_, ?_⟩
          · rw [heap_setCell_other _ ⟨D, _, none⟩ _ _ hDP, kk _ _ _ hA.box (by omega)]; exact hA.box
          · rw [heap_setCell_other _ ⟨D, _, none⟩ _ _ hDN, kk _ _ _ hA.nbox hgN]; exact hA.nbox
          · have hb2 : Below B w w2 := hA.below.trans (grown_below hG (fun k hk => by injection hk with hk; rw [← hk]; exact hA.df.ne.2.1) (Nat.le_trans (unhide HBB) hA.below.size))
            exact hb2.setCell (p := ⟨D, 0, none⟩) hA.df.hD _
          · rw [World.cell?_of_block (a := ⟨D, 0, none⟩) (kk _ _ _ hA.df.box hDg)]; exact hA.df.cells.1
          · rw [World.frozen?_of_block (a := ⟨D, 0, none⟩) (kk _ _ _ hA.df.box hDg)]; exact hA.df.cells.2.2
        have hmap : Hid (((l ++ [(nz, nl, nl)]).set n (x, nl, nl)).map (·.1) = if n = n then l.map (·.1) ++ [x] else (l.map (·.1)).set n x) := by
          show _ = _
          rw [if_pos rfl, unhide HLN, List.set_append_right _ _ (Nat.le_refl _), Nat.sub_self]
          simp
        have hgd : Hid ((l ++ [(nz, nl, nl)]).getD d zNv = l.getD d zNv) := by
          show _ = _
          have := unhide HDD
          simp [List.getD, List.getElem?_append_left this]
        have hll : Hid (((l ++ [(nz, nl, nl)]).length) = n + 1) := by show _ = _; rw [List.length_append, ← unhide HLN]; rfl
        clear HKZ HFR HDK HRI HLL HLK HK0
        go_wp2_with (first | (at_builtin; refine wpList_append_own_at _ rfl _ _ 22 rfl B 82 i0 _ 10 120 Tryz.underlying22 hi hz0 hz1 hz2 rfl (by decide) _ n (cellsOf l) rfl (unhide hRow) ⟨W0.heap.size, 0, none⟩ 1 1 (nc nz nl nl) rfl rfl (new_nz _) nz_one (by unfold maxLen; omega) (by omega) (by simp; have := unhide HBs; omega) ?_))
        intro v' w2 hO hG _ _
        obtain ⟨⟨g2, c2, rfl⟩, hA2, hc2, hf2⟩ := unhide HGR v' w2 hO hG
        have HA2 := hide hA2
        clear hO hG hA2 HGR
        go_wp2_with fail
        go_meet
        exact ⟨g2, n + 1, c2, _, HA2, by omega, by omega, by omega, hmap, hgd⟩
    case rest =>
      obtain ⟨g2, n2, c2, l2, HA2, hk2', hn2, hn26, HMAP, HGD⟩ := hcut
      have hk2n : (k : Int) < (n2 : Int) := by omega
      have hl2 := (unhide HA2).df.lenN
      have hkl : k < l2.length := by omega
      obtain ⟨m2, dv2, lv2, hx2⟩ : ∃ a b e, l2.getD k zNv = (a, b, e) := ⟨_, _, _, rfl⟩
      obtain ⟨b0, b1, b2, b3, b4, b5, b6, b7, b8, b9⟩ := (unhide HA2).node
      obtain ⟨n0, n1, n22, n3, n4, n5, n6, n7, n8, n9⟩ := (unhide HA2).df.ten k hkl hx2
      obtain ⟨cD2, -, -⟩ := (unhide HA2).df.cells
      have f0 := (unhide HA2).df.frozen (k * 10); have f1 := (unhide HA2).df.frozen (k * 10 + 1); have f2 := (unhide HA2).df.frozen (k * 10 + 2); have f3 := (unhide HA2).df.frozen (k * 10 + 3); have f4 := (unhide HA2).df.frozen (k * 10 + 4); have f5 := (unhide HA2).df.frozen (k * 10 + 5); have f6 := (unhide HA2).df.frozen (k * 10 + 6); have f7 := (unhide HA2).df.frozen (k * 10 + 7); have f8 := (unhide HA2).df.frozen (k * 10 + 8); have f9 := (unhide HA2).df.frozen (k * 10 + 9)
      obtain ⟨W3, hW3⟩ : ∃ W, W = (((((((((((wc.setCell ⟨g2, k * 10, none⟩ (.int .u8 (x.kind.toNat : Int))).setCell ⟨g2, k * 10 + 1, none⟩ (.int .i64 x.mode)).setCell ⟨g2, k * 10 + 2, none⟩ (.int .i64 x.user)).setCell ⟨g2, k * 10 + 3, none⟩ (.int .i64 x.group)).setCell ⟨g2, k * 10 + 4, none⟩ (.int .i64 x.links)).setCell ⟨g2, k * 10 + 5, none⟩ (.int .i64 x.time)).setCell ⟨g2, k * 10 + 6, none⟩ (.slice none 0 0)).setCell ⟨g2, k * 10 + 7, none⟩ (.string x.target)).setCell ⟨g2, k * 10 + 8, none⟩ (.slice none 0 0)).setCell ⟨g2, k * 10 + 9, none⟩ (.int .i64 x.parent))).drew := ⟨_, rfl⟩
      have hA3 : Da w W3 B D now (sg g2 n2 c2) (l2.set k (x, nl, nl)) ⟨(d : Int), nm, no, bd⟩ x := by rw [hW3]; exact (unhide HA2).put (by omega) k hkl (unhide HXD) (unhide HXL)
      have HA3 := hide hA3
      have hkd : k ≠ d := by
        by_cases e : k < n
        · exact unhide HDK k e (unhide HKZ e)
        · have := unhide HDD; have := unhide HLN; omega
      have hg3 : (l2.set k (x, nl, nl)).getD d zNv = l.getD d zNv := by
        rw [← unhide HGD]
        simp [List.getD, List.getElem?_set_ne hkd]
      have hl3 : (l2.set k (x, nl, nl)).length = n2 := by rw [List.length_set, ← hl2]
      have HLC := hide (list_any B D now (sg g2 n2 c2) (l2.set k (x, nl, nl)) d k nm no bd W3 hA3.df (Nat.le_trans (unhide HBB) hA3.below.size) (by rw [hl3]; have := unhide HDD; have := unhide HLN; omega) (by rw [hl3]; exact hk2') (by rw [hg3]; exact unhide HRI) (by rw [hg3]; exact unhide HLL) (by rw [hg3]; exact unhide HLK))
      have HW3 := hide hW3
      have HB3 := hide hA3.below
      have HBW := hide (Nat.le_trans (unhide HBB) hA3.below.size)
      clear hW3 hA3 hg3 hl3 hkd HGD HA2 hx2 hl2
      go_wp2_with fail
      go_region
      go_upto_region 7 with fail
      rw [← unhide HW3]
      clear HW3 b0 b1 b2 b3 b4 b5 b6 b7 b8 b9 n0 n1 n22 n3 n4 n5 n6 n7 n8 n9 cD2 f0 f1 f2 f3 f4 f5 f6 f7 f8 f9
      obtain ⟨p0, p1, p2, p3⟩ := (unhide HA3).place
      go_wp2_with fail
      refine (unhide HLC).mono ?_
      rintro e w5 ⟨rfl, ⟨l', hdf, hmap⟩, hb5⟩
      have HDF := hide hdf
      have HBF := hide ((unhide HB3).trans hb5)
      have HMF : Hid (l'.map (·.1) = (addD now (l.map (·.1)) d nm x).1) := by
        show _ = _
        rw [hmap, unhide HMAP]
        unfold addD
        simp only
        rw [unhide HFR, unhide HNL]
      have HFR2 := hide (unhide HFR)
      clear hdf hmap hb5 HLC p0 p1 p2 p3
      go_wp2_with fail
      go_ret
      exact ⟨by rw [unhide HFR2]; rfl, ⟨_, _, unhide HDF, unhide HMF⟩, unhide HBF⟩
end Go.Proofs.YtpcklgbcabpilaaGreatDoor.Ca
