import Derived.Test.YtidhceebafmlkaaGreatDoorCaNew
import Derived.Test.YtidhceebafmlkaaGreatDoorCaAct2
import Derived.Maps.AppendAt
import Derived.BigRegion
namespace Go.Proofs.YtidhceebafmlkaaGreatDoor.Ca
open Go.RowKit Cu Tr Pm Pt
theorem last_self (ns : List Nd) (k : Nat) (h : ¬ (1 < k ∧ (nd ns k).kind = 0)) : lastAt ns k = k := by
  cases k with
  | zero => rfl
  | succ k => rw [lastAt, if_neg h]
theorem last_down (ns : List Nd) (k : Nat) (h1 : 1 < k + 1) (h0 : (nd ns (k + 1)).kind = 0) : lastAt ns (k + 1) = lastAt ns k := by rw [lastAt, if_pos ⟨h1, h0⟩]
theorem Df.ten {w : World} {B D g n c : Nat} {now : Int} {l : List Nv} (h : Df w B D now (sg g n c) l) (i : Nat) (hi : i < l.length) {m : Nd} {dv lv : Value} (hx : l.getD i zNv = (m, dv, lv)) : N10 w g (i * 10) m dv lv := by
  have q : ∀ j, j < 10 → w.cell? ⟨g, i * 10 + j, none⟩ = (nc m dv lv)[j]? := fun j hj => by
    have := h.cell i j hi hj
    rw [hx] at this
    exact this
  exact ⟨q 0 (by omega), q 1 (by omega), q 2 (by omega), q 3 (by omega), q 4 (by omega), q 5 (by omega), q 6 (by omega), q 7 (by omega), q 8 (by omega), q 9 (by omega)⟩
theorem loseD_eq {ns : List Nd} {m : Nat} {md : Nd} (h : nd (upd ns m fun x => { x with links := x.links - 1 }) m = md) : loseD ns m =
    if 0 < md.links ∧ md.kind ≠ 2 then upd ns m fun x => { x with links := x.links - 1 }
    else ((upd ns m fun x => { x with links := x.links - 1 }).set m nz).take (lastAt ((upd ns m fun x => { x with links := x.links - 1 }).set m nz) (((upd ns m fun x => { x with links := x.links - 1 }).set m nz).length - 1) + 1) := by
  unfold loseD
  simp only [h]
set_option maxRecDepth 100000 in
set_option maxHeartbeats 4000000 in
theorem lose_any (B D : Nat) (now : Int) (v : Value) (l : List Nv) (m : Nat) (w : World) (h : Df w B D now v l) (hm : m < l.length) (h2 : 2 ≤ l.length) (hn6 : l.length ≤ 1000000) (hlk : -1000000000 ≤ (l.getD m zNv).1.links ∧ (l.getD m zNv).1.links ≤ 1000000000) :
    Calls Tryz.prog 206 #[.pointer (some ⟨D, 0, none⟩), .int .i64 m] w fun e w' => e = .returned (.tuple #[]) ∧ (∃ v' l', Df w' B D now v' l' ∧ l'.map (·.1) = loseD (l.map (·.1)) m) ∧ Below B w w' := by
  obtain ⟨g, c, hvg⟩ := h.at (by omega)
  obtain ⟨n, hn⟩ : ∃ n, n = l.length := ⟨_, rfl⟩
  rw [← hn] at hvg
  subst hvg
  have hnc : n ≤ c := by
    rcases h.rown.2 with ⟨h0, _⟩ | ⟨g', c', cur, h1, _, _, h4, _⟩
    · cases h0
    · injection h1 with _ _ h1; omega
  obtain ⟨md, dv, lv, hx⟩ : ∃ md dv lv, l.getD m zNv = (md, dv, lv) := ⟨_, _, _, rfl⟩
  rw [hx] at hlk
  simp only at hlk
  have hmn : (m : Int) < (n : Int) := by omega
  have hgB := h.ne.2.1
  have hMD : nd (l.map (·.1)) m = md := by rw [← getD_fst l m hm, hx]
  obtain ⟨ns1, hns1⟩ : ∃ ns1, ns1 = upd (l.map (·.1)) m fun x => { x with links := x.links - 1 } := ⟨_, rfl⟩
  have hml : m < (l.map (·.1)).length := by simpa using hm
  have hN1 : nd ns1 m = { md with links := md.links - 1 } := by rw [hns1]; unfold upd; rw [hMD]; simp [nd, List.getD, hm]
  have hL := loseD_eq (ns := l.map (·.1)) (m := m) (md := { md with links := md.links - 1 }) (by rw [← hns1]; exact hN1)
  rw [← hns1] at hL
  simp only at hL
  have HD1' := hide (h.upd1 m 4 (.int .i64 (md.links - 1)) (fun x => { x with links := x.links - 1 }) hm (by omega) (fun m' dv' lv' => by
    by_cases e : l.getD m zNv = (m', dv', lv')
    · refine .inl ?_
      rw [hx] at e
      injection e with e _
      rw [← e]; rfl
    · exact .inr e) (fun _ => rfl) (fun _ => rfl))
  have hm1 : (updL l m fun x => { x with links := x.links - 1 }).map (·.1) = ns1 := by rw [hns1]; exact updL_fst l m hm _
  have hl1 : (updL l m fun x => { x with links := x.links - 1 }).length = n := by rw [updL_len, hn]
  have hx1 : (updL l m fun x => { x with links := x.links - 1 }).getD m zNv = ({ md with links := md.links - 1 }, dv, lv) := by rw [updL_getD, if_pos ⟨rfl, hm⟩, hx]
  have hbb := (Below.refl w.heap.size w)
  obtain ⟨cD0, -, -⟩ := h.cells
  have k4 := (h.ten m hm hx).c4
  have f4 := h.frozen (m * 10 + 4)
  have BB0 : Hid (Below B w w) := (Below.refl w.heap.size w).mono (by have := h.hD; have := h.size; omega)
  have HM1 := hide hm1
  have HL1 := hide hl1
  have HX1 := hide hx1
  have HLO := hide hL
  have hB2 : 2 ≤ n := by omega
  have hB6 : n ≤ 1000000 := by omega
  have HML : Hid (m < n) := by show m < n; omega
  clear h hm hx hMD hns1 hml hN1 hL hm1 hl1 hx1 hbb hn h2 hn6
  generalize updL l m (fun x => { x with links := x.links - 1 }) = l1 at *
  obtain ⟨lo, hi⟩ := hlk
  obtain ⟨L1, hL1⟩ : ∃ L1, L1 = md.links - 1 := ⟨_, rfl⟩
  obtain ⟨K, hK⟩ : ∃ K, K = md.kind := ⟨_, rfl⟩
  rw [← hL1] at HD1' HX1 HLO
  rw [← hK] at HLO
  obtain ⟨L0, hL0⟩ : ∃ L0, L0 = md.links := ⟨_, rfl⟩
  rw [← hL0] at k4 lo hi
  have hL01 : L0 - 1 = L1 := by omega
  have HL01 := hide hL01
  obtain ⟨W1, hW1⟩ : ∃ W, W = w.setCell ⟨g, m * 10 + 4, none⟩ (.int .i64 L1) := ⟨_, rfl⟩
  have HD1 : Hid (Df W1 B D now (sg g n c) l1) := by rw [hW1]; exact uh HD1'
  have BB1 : Hid (Below B w W1) := by rw [hW1]; exact (uh BB0).setCell (p := ⟨g, m * 10 + 4, none⟩) hgB _
  have HW1 := hide hW1
  clear hW1 HD1' hL01 BB0 hL1 hL0
  go_enter Tryz.func206, Tryz.ntmps206
  go_upto_region 2 with fail
  rw [uh HL01, ← uh HW1]
  clear cD0 k4 f4 HW1 HL01 lo hi
  obtain ⟨n0, n1, n2, n3, n4, n5, n6, n7, n8, n9⟩ := (uh HD1).ten m (by rw [uh HL1]; exact uh HML) (uh HX1)
  simp only at n0 n1 n2 n3 n4 n5 n6 n7 n8 n9
  rw [← hK] at n0
  obtain ⟨q, hq⟩ : ∃ q : Bool, Hid (q = decide (0 < L1 ∧ K ≠ 2)) := ⟨_, rfl⟩
  have HLO2 : Hid (loseD (l.map (·.1)) m = if q = true then ns1 else (ns1.set m nz).take (lastAt (ns1.set m nz) ((ns1.set m nz).length - 1) + 1)) := by
    show _ = _
    rw [uh HLO, uh hq]
    simp only [decide_eq_true_eq]
  clear HLO hK
  go_cut [31] (fun x wx => W1 = wx ∧ x = .bool q)
  case first =>
    have hq' := uh hq
    clear HLO2 hq
    by_cases h1 : 0 < L1
    · by_cases h2 : K = 2
      · have e : q = false := by rw [hq']; simp [h2]
        subst e h2
        have n0' : W1.cell? ⟨g, m * 10, none⟩ = some (.int .u8 2) := n0
        clear n0 hq'
        go_wp2_with fail
        go_meet
        exact ⟨rfl, rfl⟩
      · have e : q = true := by rw [hq']; simp [h1, h2]
        have hk2 : ¬ ((K.toNat : Int) = 2) := fun e => h2 (UInt8.toNat_inj.1 (by show K.toNat = 2; omega))
        have hk3 : ((K.toNat : Int) != 2) = true := by simpa using hk2
        subst e
        clear hq' h2
        generalize K.toNat = KN at *
        go_wp2_with fail
        go_meet
        exact ⟨rfl, rfl⟩
    · have e : q = false := by rw [hq']; simp [h1]
      subst e
      clear hq'
      go_wp2_with fail
      go_meet
      exact ⟨rfl, rfl⟩
  case rest =>
    obtain ⟨rfl, rfl⟩ := hcut
    cases q with
    | true =>
      have HF : Hid (l1.map (·.1) = loseD (l.map (·.1)) m) := by show _ = _; rw [uh HM1, uh HLO2, if_pos rfl]
      clear n0 n1 n2 n3 n4 n5 n6 n7 n8 n9 HLO2 hq
      go_wp2_with fail
      refine bodyPost_ret (results_none rfl _ _ _) rfl ?_
      exact ⟨rfl, ⟨_, _, uh HD1, uh HF⟩, uh BB1⟩
    | false =>
      have HLO : Hid (loseD (l.map (·.1)) m = (ns1.set m nz).take (lastAt (ns1.set m nz) ((ns1.set m nz).length - 1) + 1)) := by show _ = _; rw [uh HLO2, if_neg (by decide)]
      have f0 := (uh HD1).frozen (m * 10)
      have f1 := (uh HD1).frozen (m * 10 + 1); have f2 := (uh HD1).frozen (m * 10 + 2); have f3 := (uh HD1).frozen (m * 10 + 3); have f4 := (uh HD1).frozen (m * 10 + 4); have f5 := (uh HD1).frozen (m * 10 + 5); have f6 := (uh HD1).frozen (m * 10 + 6); have f7 := (uh HD1).frozen (m * 10 + 7); have f8 := (uh HD1).frozen (m * 10 + 8); have f9 := (uh HD1).frozen (m * 10 + 9)
      obtain ⟨W2, hW2⟩ : ∃ W, W = ((((((((((W1.setCell ⟨g, m * 10, none⟩ (.int .u8 0)).setCell ⟨g, m * 10 + 1, none⟩ (.int .i64 0)).setCell ⟨g, m * 10 + 2, none⟩ (.int .i64 0)).setCell ⟨g, m * 10 + 3, none⟩ (.int .i64 0)).setCell ⟨g, m * 10 + 4, none⟩ (.int .i64 0)).setCell ⟨g, m * 10 + 5, none⟩ (.int .i64 0)).setCell ⟨g, m * 10 + 6, none⟩ (.slice none 0 0)).setCell ⟨g, m * 10 + 7, none⟩ (.string ⟨#[]⟩)).setCell ⟨g, m * 10 + 8, none⟩ (.slice none 0 0)).setCell ⟨g, m * 10 + 9, none⟩ (.int .i64 0)) := ⟨_, rfl⟩
      have HD2 : Hid (Df W2 B D now (sg g n c) (l1.set m (nz, nl, nl))) := by rw [hW2]; exact (uh HD1).put m (by rw [uh HL1]; exact uh HML) nz rfl rfl
      have BB2 : Hid (Below B w W2) := by rw [hW2]; exact set10_bel (uh BB1) (m * 10) hgB (.int .u8 0) (.int .i64 0) (.int .i64 0) (.int .i64 0) (.int .i64 0) (.int .i64 0) (.slice none 0 0) (.string ⟨#[]⟩) (.slice none 0 0) (.int .i64 0)
      have HM2 : Hid ((l1.set m (nz, nl, nl)).map (·.1) = ns1.set m nz) := by show _ = _; rw [set_fst, uh HM1]
      have HL2 : Hid ((l1.set m (nz, nl, nl)).length = n) := by show _ = _; rw [List.length_set]; exact uh HL1
      have HN2 : Hid ((ns1.set m nz).length = n) := by show _ = _; rw [← uh HM2, List.length_map]; exact uh HL2
      have HW2 := hide hW2
      clear hW2 HD1 BB1 HLO2 hq HX1 HM1 HL1
      generalize l1.set m (nz, nl, nl) = l2 at *
      generalize ns1.set m nz = ns2 at *
      clear l1
      go_upto_region 4 with fail
      rw [← uh HW2]
      clear HW2 n0 n1 n2 n3 n4 n5 n6 n7 n8 n9 f0 f1 f2 f3 f4 f5 f6 f7 f8 f9
      rw [uh HN2] at HLO
      obtain ⟨cD0, -, fD0⟩ := (uh HD2).cells
      have HK2 : Hid (∀ k, k < n → W2.cell? ⟨g, k * 10, none⟩ = some (.int .u8 (nd ns2 k).kind.toNat)) := fun k hk => by
        obtain ⟨a, b, d, hx⟩ : ∃ a b d, l2.getD k zNv = (a, b, d) := ⟨_, _, _, rfl⟩
        have q := ((uh HD2).ten k (by rw [uh HL2]; exact hk) hx).c0
        rw [← uh HM2, ← getD_fst l2 k (by rw [uh HL2]; exact hk), hx]
        exact q
      obtain ⟨n', hn'⟩ : ∃ n', n = n' + 1 := ⟨n - 1, by omega⟩
      have hnn : ((n : Int) - 1) = (n' : Int) := by omega
      go_wp2_with fail
      go_loopw [5] (fun v5 wr => ∃ k : Nat, k + 1 ≤ n ∧ v5 = .int .i64 k ∧ W2 = wr ∧ Hid (lastAt ns2 k = lastAt ns2 (n - 1))) (fun v5 _ => (intOf v5).toNat)
      case atStart => exact ⟨n', by omega, by go_num, rfl, by show _ = _; rw [show n - 1 = n' by omega]⟩
      case round =>
        obtain ⟨k, hkn, rfl, rfl, hlast⟩ := hrel
        have c0 := uh HK2 k (by omega)
        by_cases h1 : 1 < k
        · have h1' : (1 : Int) < (k : Int) := by omega
          have hkn' : (k : Int) < (n : Int) := by omega
          by_cases h0 : (nd ns2 k).kind = 0
          · rw [h0] at c0
            have c0' : W2.cell? ⟨g, k * 10, none⟩ = some (.int .u8 0) := c0
            obtain ⟨k', hk'⟩ : ∃ k', k = k' + 1 := ⟨k - 1, by omega⟩
            have hlast2 : Hid (lastAt ns2 k' = lastAt ns2 (n - 1)) := by
              show _ = _
              rw [← uh hlast, hk', last_down ns2 k' (by omega) (by rw [← hk']; exact h0)]
            have hkk : ((k : Int) - 1) = (k' : Int) := by omega
            clear hlast c0 h0 hk'
            go_wp2_with fail
            go_roundw
            case rel => exact ⟨k', by omega, by go_num, by simp, hlast2⟩
            case measure => simp [intOf]; omega
          · have HKX := last_self ns2 k (fun h => h0 h.2)
            have hk2 : ¬ (((nd ns2 k).kind.toNat : Int) = 0) := fun e => h0 (UInt8.toNat_inj.1 (by show (nd ns2 k).kind.toNat = 0; omega))
            have hk3 : (((nd ns2 k).kind.toNat : Int) == 0) = false := by simpa using hk2
            generalize (nd ns2 k).kind.toNat = KN at *
            clear h0
            have hO : Hid (lastAt ns2 k = k) := hide HKX
            have HD3 := hide ((uh HD2).cut (k + 1) hkn)
            have HM3 : Hid ((l2.take (k + 1)).map (·.1) = loseD (l.map (·.1)) m) := by
              show _ = _
              rw [List.map_take, uh HM2, uh HLO, ← uh hlast, uh hO]
            have BB3 := hide ((uh BB2).setCell (p := ⟨D, 0, none⟩) (uh HD2).hD (sg g (k + 1) c))
            have hkc : ((k : Int) + 1) ≤ (c : Int) := by omega
            clear hlast
            go_wp2_with fail
            go_end0
            exact ⟨rfl, ⟨_, _, uh HD3, uh HM3⟩, uh BB3⟩
        · have HKX := last_self ns2 k (fun h => h1 h.1)
          have h1' : ¬ (1 : Int) < (k : Int) := by omega
          clear c0
          have hO : Hid (lastAt ns2 k = k) := hide HKX
          have HD3 := hide ((uh HD2).cut (k + 1) hkn)
          have HM3 : Hid ((l2.take (k + 1)).map (·.1) = loseD (l.map (·.1)) m) := by
            show _ = _
            rw [List.map_take, uh HM2, uh HLO, ← uh hlast, uh hO]
          have BB3 := hide ((uh BB2).setCell (p := ⟨D, 0, none⟩) (uh HD2).hD (sg g (k + 1) c))
          have hkc : ((k : Int) + 1) ≤ (c : Int) := by omega
          clear hlast
          go_wp2_with fail
          go_end0
          exact ⟨rfl, ⟨_, _, uh HD3, uh HM3⟩, uh BB3⟩
end Go.Proofs.YtidhceebafmlkaaGreatDoor.Ca

namespace Go.Proofs.YtidhceebafmlkaaGreatDoor.Ca
open Go.RowKit Cu Tr Pm Pt
theorem free_from (ns : List Nd) : ∀ (f j k : Nat), j ≤ k → k ≤ j + f → (∀ i, j ≤ i → i < k → i < ns.length ∧ (nd ns i).kind ≠ 0) → (k < ns.length → (nd ns k).kind = 0) → freeFrom ns f j = k
  | 0, j, k, h1, h2, _, _ => by unfold freeFrom; omega
  | f + 1, j, k, h1, h2, h3, h4 => by
    unfold freeFrom
    by_cases e : j = k
    · subst e
      rw [if_neg]
      rintro ⟨a, b⟩
      exact b (h4 a)
    · rw [if_pos (h3 j (Nat.le_refl _) (by omega))]
      exact free_from ns f (j + 1) k (by omega) (by omega) (fun i hi hk => h3 i (by omega) hk) h4
theorem free_is (ns : List Nd) (k : Nat) (h2 : 2 ≤ k) (hk : k ≤ ns.length ∨ k = 2) (h3 : ∀ i, 2 ≤ i → i < k → i < ns.length ∧ (nd ns i).kind ≠ 0) (h4 : k < ns.length → (nd ns k).kind = 0) : freeAt ns = k :=
  free_from ns ns.length 2 k h2 (by omega) h3 h4
structure Da (w0 W : World) (B D : Nat) (now : Int) (v : Value) (l : List Nv) (p : Pl) (x : Nd) : Prop where
  df : Df W B D now v l
  box : W.heap[w0.heap.size]? = some (.cells (pv p) 99)
  nbox : W.heap[w0.heap.size + 1]? = some (.cells (na x nl nl) 82)
  below : Below B w0 W
theorem Da.step {w0 W W' : World} {B D : Nat} {now : Int} {v : Value} {l : List Nv} {p : Pl} {x : Nd} (h : Da w0 W B D now v l p x) (hb : Below W.heap.size W W') (hB : B ≤ w0.heap.size) : Da w0 W' B D now v l p x :=
  ⟨h.df.below hb, (hb.block _ (Array.getElem?_eq_some_iff.1 h.box).1).trans h.box, (hb.block _ (Array.getElem?_eq_some_iff.1 h.nbox).1).trans h.nbox, h.below.trans (hb.mono (Nat.le_trans hB h.below.size))⟩
theorem Da.node {w0 W : World} {B D : Nat} {now : Int} {v : Value} {l : List Nv} {p : Pl} {x : Nd} (h : Da w0 W B D now v l p x) : N10 W (w0.heap.size + 1) 0 x nl nl := by
  have q : ∀ j, W.cell? ⟨w0.heap.size + 1, j, none⟩ = (na x nl nl)[j]? := fun j => cell_of_row _ _ _ _ _ _ h.nbox
  exact ⟨q 0, q 1, q 2, q 3, q 4, q 5, q 6, q 7, q 8, q 9⟩
theorem Da.place {w0 W : World} {B D : Nat} {now : Int} {v : Value} {l : List Nv} {d : Int} {nm : ByteArray} {no : Int} {bd : Bool} {x : Nd} (h : Da w0 W B D now v l ⟨d, nm, no, bd⟩ x) :
    W.cell? ⟨w0.heap.size, 0, none⟩ = some (.int .i64 d) ∧ W.cell? ⟨w0.heap.size, 1, none⟩ = some (.string nm) ∧ W.cell? ⟨w0.heap.size, 2, none⟩ = some (.int .i64 no) ∧ W.cell? ⟨w0.heap.size, 3, none⟩ = some (.bool bd) := by
  refine ⟨?_, ?_, ?_, ?_⟩
  all_goals (rw [cell_of_row _ _ _ _ _ _ h.box]; rfl)
theorem new_nz (w : World) : ∀ j u, (nc nz nl nl)[j]? = some u → (w.alloc (.cells (na nz (.slice none 0 0) (.slice none 0 0)) 82)).cell? ((⟨w.heap.size, 0, none⟩ : Addr).add j) = some u := fun j u hj => by
  rw [add_none, Nat.zero_add, cell_of_row _ _ _ _ _ _ (heap_alloc_new w _)]
  simpa [nc] using hj
theorem nz_one : ∀ u ∈ nc nz nl nl, u.oneCell' = true := by
  intro u hu
  simp only [nc, List.mem_cons, List.not_mem_nil, or_false] at hu
  rcases hu with rfl | rfl | rfl | rfl | rfl | rfl | rfl | rfl | rfl | rfl <;> rfl
theorem drew_heap (w : World) (k : Nat) : w.drew.heap[k]? = w.heap[k]? := rfl
theorem Df.dr {w : World} {B D : Nat} {now : Int} {v : Value} {l : List Nv} (h : Df w B D now v l) : Df w.drew B D now v l := h.below (below_drew w 1)
theorem Da.ne {w0 W : World} {B D g n c : Nat} {now : Int} {l : List Nv} {p : Pl} {x : Nd} (h : Da w0 W B D now (sg g n c) l p x) (hn : 2 ≤ n) : w0.heap.size ≠ g ∧ w0.heap.size + 1 ≠ g := by
  obtain ⟨cur, hcur⟩ := own_type h.df.row (k := g) rfl
  refine ⟨obj_ne h.box hcur (by decide), fun e => ?_⟩
  have q3 := h.nbox
  rw [e, hcur] at q3
  injection q3 with q3
  injection q3 with q3 _ _
  have q4 := congrArg Array.size q3
  rcases h.df.rown.2 with ⟨h0, _⟩ | ⟨g', c', cur', h1, _, h3, h4, _, h6, _⟩
  · cases h0
  · injection h1 with h1 _ h1c
    injection h1 with h1
    injection h1 with h1 _ _
    subst h1 h1c
    rw [hcur] at h3
    injection h3 with h3
    injection h3 with h3 _ _
    subst h3
    rw [h6] at q4
    simp at q4
    omega
theorem Da.put {w0 W : World} {B D g n c : Nat} {now : Int} {l : List Nv} {p : Pl} {x : Nd} (h : Da w0 W B D now (sg g n c) l p x) (hn : 2 ≤ n) (k : Nat) (hk : k < l.length) (hxd : x.data = []) (hxl : x.list = []) :
    Da w0 (((((((((((W.setCell ⟨g, k * 10, none⟩ (.int .u8 (x.kind.toNat : Int))).setCell ⟨g, k * 10 + 1, none⟩ (.int .i64 x.mode)).setCell ⟨g, k * 10 + 2, none⟩ (.int .i64 x.user)).setCell ⟨g, k * 10 + 3, none⟩ (.int .i64 x.group)).setCell ⟨g, k * 10 + 4, none⟩ (.int .i64 x.links)).setCell ⟨g, k * 10 + 5, none⟩ (.int .i64 x.time)).setCell ⟨g, k * 10 + 6, none⟩ (.slice none 0 0)).setCell ⟨g, k * 10 + 7, none⟩ (.string x.target)).setCell ⟨g, k * 10 + 8, none⟩ (.slice none 0 0)).setCell ⟨g, k * 10 + 9, none⟩ (.int .i64 x.parent))).drew B D now (sg g n c) (l.set k (x, nl, nl)) p x := by
  have hne := h.ne hn
  have hp := (h.df.put k hk x hxd hxl).dr
  exact ⟨hp, (drew_heap _ _).trans ((set10_other hne.1 (.int .u8 (x.kind.toNat : Int)) (.int .i64 x.mode) (.int .i64 x.user) (.int .i64 x.group) (.int .i64 x.links) (.int .i64 x.time) (.slice none 0 0) (.string x.target) (.slice none 0 0) (.int .i64 x.parent)).trans h.box), (drew_heap _ _).trans ((set10_other hne.2 (.int .u8 (x.kind.toNat : Int)) (.int .i64 x.mode) (.int .i64 x.user) (.int .i64 x.group) (.int .i64 x.links) (.int .i64 x.time) (.slice none 0 0) (.string x.target) (.slice none 0 0) (.int .i64 x.parent)).trans h.nbox), below_dr (set10_bel h.below (k * 10) h.df.ne.2.1 (.int .u8 (x.kind.toNat : Int)) (.int .i64 x.mode) (.int .i64 x.user) (.int .i64 x.group) (.int .i64 x.links) (.int .i64 x.time) (.slice none 0 0) (.string x.target) (.slice none 0 0) (.int .i64 x.parent))⟩
set_option maxRecDepth 100000 in
set_option maxHeartbeats 4000000 in
theorem add_any (B D : Nat) (now : Int) (v : Value) (l : List Nv) (d : Nat) (nm : ByteArray) (no : Int) (bd : Bool) (x : Nd) (w : World) (h : Df w B D now v l) (hB : B ≤ w.heap.size) (hd : d < l.length) (hdk : (l.getD d zNv).1.kind = 2) (h2 : 2 ≤ l.length) (hn6 : l.length ≤ 1000000) (hr : Rises (l.getD d zNv).1.list) (hll : (l.getD d zNv).1.list.length ≤ 100000) (hlk : -1000000000 ≤ (l.getD d zNv).1.links ∧ (l.getD d zNv).1.links ≤ 1000000000) (hxd : x.data = []) (hxl : x.list = []) :
    Calls Tryz.prog 195 #[.pointer (some ⟨D, 0, none⟩), .agg (pv ⟨(d : Int), nm, no, bd⟩), .agg (na x nl nl)] w fun e w' => e = .returned (.int .i64 (freeAt (l.map (·.1)))) ∧ (∃ v' l', Df w' B D now v' l' ∧ l'.map (·.1) = (addD now (l.map (·.1)) d nm x).1) ∧ Below B w w' := by
  obtain ⟨g, c, hvg⟩ := h.at (by omega)
  obtain ⟨n, hn⟩ : ∃ n, n = l.length := ⟨_, rfl⟩
  rw [← hn] at hvg
  subst hvg
  have hgw := h.ne.2.2
  have HDA : Hid (Da w ((w.alloc (.cells (pv ⟨(d : Int), nm, no, bd⟩) 99)).alloc (.cells (na x nl nl) 82)) B D now (sg g n c) l ⟨(d : Int), nm, no, bd⟩ x) := by
    have b1 := al_b w (.cells (pv ⟨(d : Int), nm, no, bd⟩) 99)
    have b2 := al_b (w.alloc (.cells (pv ⟨(d : Int), nm, no, bd⟩) 99)) (.cells (na x nl nl) 82)
    have b12 := b1.trans (b2.mono b1.size)
    refine ⟨h.below b12, (b2.block _ (by simp)).trans (heap_alloc_new w _), ?_, b12.mono hB⟩
    have q := heap_alloc_new (w.alloc (.cells (pv ⟨(d : Int), nm, no, bd⟩) 99)) (.cells (na x nl nl) 82)
    rwa [World.size_alloc] at q
  obtain ⟨W0, hW0⟩ : ∃ W0, W0 = (w.alloc (.cells (pv ⟨(d : Int), nm, no, bd⟩) 99)).alloc (.cells (na x nl nl) 82) := ⟨_, rfl⟩
  rw [← hW0] at HDA
  obtain ⟨cD0, -, fD0⟩ := (uh HDA).df.cells
  have HK0 : Hid (∀ k, k < n → W0.cell? ⟨g, k * 10, none⟩ = some (.int .u8 (nd (l.map (·.1)) k).kind.toNat)) := fun k hk => by
    obtain ⟨a, b, dd, hx⟩ : ∃ a b dd, l.getD k zNv = (a, b, dd) := ⟨_, _, _, rfl⟩
    have q := ((uh HDA).df.ten k (by omega) hx).c0
    rw [← getD_fst l k (by omega), hx]
    exact q
  have HNL : Hid ((l.map (·.1)).length = n) := by show _ = _; rw [List.length_map, hn]
  have HDK : Hid (∀ k, k < n → (nd (l.map (·.1)) k).kind = 0 → k ≠ d) := fun k hk h0 e => by
    subst e
    rw [← getD_fst l k (by omega), hdk] at h0
    exact absurd h0 (by decide)
  have HLN : Hid (n = l.length) := hn
  have HDD := hide hd
  have HRI := hide hr
  have HLL := hide hll
  have HLK := hide hlk
  have HBB := hide hB
  have HXD := hide hxd
  have HXL := hide hxl
  have HW0 := hide hW0
  have h2n : 2 ≤ n := by omega
  have h6n : n ≤ 1000000 := by omega
  clear h hW0 hd hdk h2 hn6 hr hll hlk hn hB hxd hxl
  unfold pv na
  simp only
  go_enter Tryz.func195, Tryz.ntmps195
  go_upto_block 0 with fail
  rw [show (w.alloc (.cells #[.int .i64 (d : Int), .string nm, .int .i64 no, .bool bd] 99)).alloc (.cells #[.int .u8 (x.kind.toNat : Int), .int .i64 x.mode, .int .i64 x.user, .int .i64 x.group, .int .i64 x.links, .int .i64 x.time, .slice none 0 0, .string x.target, .slice none 0 0, .int .i64 x.parent] 82) = W0 from (uh HW0).symm]
  clear HW0
  go_cut [7] (fun u wx => W0 = wx ∧ ∃ k : Nat, 2 ≤ k ∧ k ≤ n ∧ u = .int .i64 k ∧ Hid (freeAt (l.map (·.1)) = k) ∧ Hid (k < n → (nd (l.map (·.1)) k).kind = 0))
  case first =>
    go_wp2_with fail
    go_loopw [7] (fun v7 wr => W0 = wr ∧ ∃ k : Nat, 2 ≤ k ∧ k ≤ n ∧ v7 = .int .i64 k ∧ Hid (∀ i, 2 ≤ i → i < k → i < n ∧ (nd (l.map (·.1)) i).kind ≠ 0)) (fun v7 _ => n - (intOf v7).toNat)
    case atStart => exact ⟨rfl, 2, Nat.le_refl _, h2n, rfl, fun i a b => absurd a (by omega)⟩
    case round =>
      obtain ⟨rfl, k, hk2, hkn, rfl, hf⟩ := hrel
      by_cases h1 : k < n
      · have h1' : (k : Int) < (n : Int) := by omega
        have c0 := uh HK0 k h1
        by_cases h0 : (nd (l.map (·.1)) k).kind = 0
        · rw [h0] at c0
          have c0' : W0.cell? ⟨g, k * 10, none⟩ = some (.int .u8 0) := c0
          have HFR : Hid (freeAt (l.map (·.1)) = k) := free_is _ k hk2 (.inl (by rw [uh HNL]; exact hkn)) (by rw [uh HNL]; exact uh hf) (fun _ => h0)
          have HK00 := hide h0
          clear c0 hf h0
          go_wp2_with fail
          go_meet
          exact ⟨rfl, k, hk2, hkn, rfl, HFR, fun _ => uh HK00⟩
        · have hf2 : Hid (∀ i, 2 ≤ i → i < k + 1 → i < n ∧ (nd (l.map (·.1)) i).kind ≠ 0) := fun i a b => by
            by_cases e : i < k
            · exact uh hf i a e
            · rw [show i = k by omega]; exact ⟨h1, h0⟩
          have hk3 : (((nd (l.map (·.1)) k).kind.toNat : Int) != 0) = true := by
            have : (nd (l.map (·.1)) k).kind.toNat ≠ 0 := fun e => h0 (UInt8.toNat_inj.1 e)
            simpa using this
          have hk4 : ¬ (((nd (l.map (·.1)) k).kind.toNat : Int) = 0) := by simpa using hk3
          generalize (nd (l.map (·.1)) k).kind.toNat = KN at *
          clear hf h0
          go_wp2_with fail
          go_roundw
          case rel => exact ⟨by simp, k + 1, by omega, by omega, by go_num, hf2⟩
          case measure => simp [intOf]; omega
      · have h1' : ¬ (k : Int) < (n : Int) := by omega
        have HFR : Hid (freeAt (l.map (·.1)) = k) := free_is _ k hk2 (.inl (by rw [uh HNL]; exact hkn)) (by rw [uh HNL]; exact uh hf) (fun q => absurd q (by rw [uh HNL]; exact h1))
        have HNE := hide h1
        clear hf
        go_wp2_with fail
        go_meet
        exact ⟨rfl, k, hk2, hkn, rfl, HFR, fun q => absurd q (uh HNE)⟩
  case rest =>
    obtain ⟨rfl, k, hk2, hkn, rfl, HFR, HKZ⟩ := hcut
    go_upto_if 37 with fail
    go_cut [] (fun wx => ∃ (g2 n2 c2 : Nat) (l2 : List Nv), Hid (Da w wx B D now (sg g2 n2 c2) l2 ⟨(d : Int), nm, no, bd⟩ x) ∧ k < n2 ∧ n ≤ n2 ∧ n2 ≤ 1000001 ∧ Hid ((l2.set k (x, nl, nl)).map (·.1) = if k = n then l.map (·.1) ++ [x] else (l.map (·.1)).set k x) ∧ Hid (l2.getD d zNv = l.getD d zNv))
    case first =>
      by_cases hkn2 : k < n
      · have hne : ¬ ((k : Int) = (n : Int)) := by omega
        have hmap : Hid ((l.set k (x, nl, nl)).map (·.1) = if k = n then l.map (·.1) ++ [x] else (l.map (·.1)).set k x) := by
          show _ = _
          rw [set_fst, if_neg (by omega)]
        clear HKZ HFR HDK HRI HLL HLK HK0
        go_wp2_with fail
        go_meet
        exact ⟨g, n, c, l, HDA, hkn2, Nat.le_refl _, by omega, hmap, rfl⟩
      · obtain rfl : n = k := by omega
        obtain ⟨i0, hi, hz0, hz1, hz2⟩ := info_parts infoN
        have hRow := hide ((uh HDA).df.rown.alloc (.cells (na nz (.slice none 0 0) (.slice none 0 0)) 82))
        have HBs := hide (Nat.le_trans (uh HBB) (uh HDA).below.size)
        have hne := hide ((uh HDA).df.ne)
        have HGR : Hid (∀ (v' : Value) (w2 : World), w2.ownsRow B 82 10 v' (n + 1) (cellsOf l ++ nc nz nl nl) → (W0.alloc (.cells (na nz (.slice none 0 0) (.slice none 0 0)) 82)).grownBy w2 (some g) → (∃ g2 c2, v' = .slice (some ⟨g2, 0, none⟩) (n + 1) c2) ∧ Da w (w2.setCell ⟨D, 0, none⟩ v') B D now v' (l ++ [(nz, nl, nl)]) ⟨(d : Int), nm, no, bd⟩ x ∧ w2.cell? ⟨D, 0, none⟩ = some (sg g n c) ∧ w2.frozen? ⟨D, 0, none⟩ = false) := fun v' w2 hO hG => by
          have hb := al_b W0 (.cells (na nz (.slice none 0 0) (.slice none 0 0)) 82)
          have hA := (uh HDA).step hb (uh HBB)
          obtain ⟨g2, c2, rfl⟩ := own_pos hO (by omega)
          have q := hA.df.grow hO hG
          obtain ⟨cur, hcur⟩ := own_type hA.df.row (k := g) rfl
          have kk : ∀ (k : Nat) (c : Array Value) (e : TypeId), (W0.alloc (.cells (na nz (.slice none 0 0) (.slice none 0 0)) 82)).heap[k]? = some (.cells c e (0, 0)) → k ≠ g → w2.heap[k]? = (W0.alloc (.cells (na nz (.slice none 0 0) (.slice none 0 0)) 82)).heap[k]? := fun k c e hk hne => hG.block k (Array.getElem?_eq_some_iff.1 hk).1 (fun q => hne (by injection q))
          have hgN : w.heap.size + 1 ≠ g := by omega
          have hDN : w.heap.size + 1 ≠ D := fun e => by
            have q1 := hA.nbox
            rw [e, hA.df.box] at q1
            injection q1 with q1
            injection q1 with _ q1 _
            exact absurd q1 (by decide)
          have hDP : w.heap.size ≠ D := fun e => by
            have q1 := hA.box
            rw [e, hA.df.box] at q1
            injection q1 with q1
            injection q1 with _ q1 _
            exact absurd q1 (by decide)
          have hDg := hA.df.ne.1
          refine ⟨⟨g2, c2, rfl⟩, ⟨q, ?_, ?_, ?_⟩, ?_, ?_⟩
          · rw [heap_setCell_other _ ⟨D, _, none⟩ _ _ hDP, kk _ _ _ hA.box (by omega)]; exact hA.box
          · rw [heap_setCell_other _ ⟨D, _, none⟩ _ _ hDN, kk _ _ _ hA.nbox hgN]; exact hA.nbox
          · have hb2 : Below B w w2 := hA.below.trans (grown_below hG (fun k hk => by injection hk with hk; rw [← hk]; exact hA.df.ne.2.1) (Nat.le_trans (uh HBB) hA.below.size))
            exact hb2.setCell (p := ⟨D, 0, none⟩) hA.df.hD _
          · rw [World.cell?_of_block (a := ⟨D, 0, none⟩) (kk _ _ _ hA.df.box hDg)]; exact hA.df.cells.1
          · rw [World.frozen?_of_block (a := ⟨D, 0, none⟩) (kk _ _ _ hA.df.box hDg)]; exact hA.df.cells.2.2
        have hmap : Hid (((l ++ [(nz, nl, nl)]).set n (x, nl, nl)).map (·.1) = if n = n then l.map (·.1) ++ [x] else (l.map (·.1)).set n x) := by
          show _ = _
          rw [if_pos rfl, uh HLN, List.set_append_right _ _ (Nat.le_refl _), Nat.sub_self]
          simp
        have hgd : Hid ((l ++ [(nz, nl, nl)]).getD d zNv = l.getD d zNv) := by
          show _ = _
          have := uh HDD
          simp [List.getD, List.getElem?_append_left this]
        have hll : Hid (((l ++ [(nz, nl, nl)]).length) = n + 1) := by show _ = _; rw [List.length_append, ← uh HLN]; rfl
        clear HKZ HFR HDK HRI HLL HLK HK0
        go_wp2_with (first | (at_builtin; refine wpList_append_own_at _ rfl _ _ 22 rfl B 82 i0 _ 10 120 Tryz.underlying22 hi hz0 hz1 hz2 rfl (by decide) _ n (cellsOf l) rfl (uh hRow) ⟨W0.heap.size, 0, none⟩ 1 1 (nc nz nl nl) rfl rfl (new_nz _) nz_one (by unfold maxLen; omega) (by omega) (by simp; have := uh HBs; omega) ?_))
        intro v' w2 hO hG _ _
        obtain ⟨⟨g2, c2, rfl⟩, hA2, hc2, hf2⟩ := uh HGR v' w2 hO hG
        have HA2 := hide hA2
        clear hO hG hA2 HGR
        go_wp2_with fail
        go_meet
        exact ⟨g2, n + 1, c2, _, HA2, by omega, by omega, by omega, hmap, hgd⟩
    case rest =>
      obtain ⟨g2, n2, c2, l2, HA2, hk2', hn2, hn26, HMAP, HGD⟩ := hcut
      have hk2n : (k : Int) < (n2 : Int) := by omega
      have hl2 := (uh HA2).df.lenN
      have hkl : k < l2.length := by omega
      obtain ⟨m2, dv2, lv2, hx2⟩ : ∃ a b e, l2.getD k zNv = (a, b, e) := ⟨_, _, _, rfl⟩
      obtain ⟨b0, b1, b2, b3, b4, b5, b6, b7, b8, b9⟩ := (uh HA2).node
      obtain ⟨n0, n1, n22, n3, n4, n5, n6, n7, n8, n9⟩ := (uh HA2).df.ten k hkl hx2
      obtain ⟨cD2, -, -⟩ := (uh HA2).df.cells
      have f0 := (uh HA2).df.frozen (k * 10); have f1 := (uh HA2).df.frozen (k * 10 + 1); have f2 := (uh HA2).df.frozen (k * 10 + 2); have f3 := (uh HA2).df.frozen (k * 10 + 3); have f4 := (uh HA2).df.frozen (k * 10 + 4); have f5 := (uh HA2).df.frozen (k * 10 + 5); have f6 := (uh HA2).df.frozen (k * 10 + 6); have f7 := (uh HA2).df.frozen (k * 10 + 7); have f8 := (uh HA2).df.frozen (k * 10 + 8); have f9 := (uh HA2).df.frozen (k * 10 + 9)
      obtain ⟨W3, hW3⟩ : ∃ W, W = (((((((((((wc.setCell ⟨g2, k * 10, none⟩ (.int .u8 (x.kind.toNat : Int))).setCell ⟨g2, k * 10 + 1, none⟩ (.int .i64 x.mode)).setCell ⟨g2, k * 10 + 2, none⟩ (.int .i64 x.user)).setCell ⟨g2, k * 10 + 3, none⟩ (.int .i64 x.group)).setCell ⟨g2, k * 10 + 4, none⟩ (.int .i64 x.links)).setCell ⟨g2, k * 10 + 5, none⟩ (.int .i64 x.time)).setCell ⟨g2, k * 10 + 6, none⟩ (.slice none 0 0)).setCell ⟨g2, k * 10 + 7, none⟩ (.string x.target)).setCell ⟨g2, k * 10 + 8, none⟩ (.slice none 0 0)).setCell ⟨g2, k * 10 + 9, none⟩ (.int .i64 x.parent))).drew := ⟨_, rfl⟩
      have hA3 : Da w W3 B D now (sg g2 n2 c2) (l2.set k (x, nl, nl)) ⟨(d : Int), nm, no, bd⟩ x := by rw [hW3]; exact (uh HA2).put (by omega) k hkl (uh HXD) (uh HXL)
      have HA3 := hide hA3
      have hkd : k ≠ d := by
        by_cases e : k < n
        · exact uh HDK k e (uh HKZ e)
        · have := uh HDD; have := uh HLN; omega
      have hg3 : (l2.set k (x, nl, nl)).getD d zNv = l.getD d zNv := by
        rw [← uh HGD]
        simp [List.getD, List.getElem?_set_ne hkd]
      have hl3 : (l2.set k (x, nl, nl)).length = n2 := by rw [List.length_set, ← hl2]
      have HLC := hide (list_any B D now (sg g2 n2 c2) (l2.set k (x, nl, nl)) d k nm no bd W3 hA3.df (Nat.le_trans (uh HBB) hA3.below.size) (by rw [hl3]; have := uh HDD; have := uh HLN; omega) (by rw [hl3]; exact hk2') (by rw [hg3]; exact uh HRI) (by rw [hg3]; exact uh HLL) (by rw [hg3]; exact uh HLK))
      have HW3 := hide hW3
      have HB3 := hide hA3.below
      have HBW := hide (Nat.le_trans (uh HBB) hA3.below.size)
      clear hW3 hA3 hg3 hl3 hkd HGD HA2 hx2 hl2
      go_wp2_with fail
      go_region
      go_upto_region 7 with fail
      rw [← uh HW3]
      clear HW3 b0 b1 b2 b3 b4 b5 b6 b7 b8 b9 n0 n1 n22 n3 n4 n5 n6 n7 n8 n9 cD2 f0 f1 f2 f3 f4 f5 f6 f7 f8 f9
      obtain ⟨p0, p1, p2, p3⟩ := (uh HA3).place
      go_wp2_with fail
      refine (uh HLC).mono ?_
      rintro e w5 ⟨rfl, ⟨l', hdf, hmap⟩, hb5⟩
      have HDF := hide hdf
      have HBF := hide ((uh HB3).trans hb5)
      have HMF : Hid (l'.map (·.1) = (addD now (l.map (·.1)) d nm x).1) := by
        show _ = _
        rw [hmap, uh HMAP]
        unfold addD
        simp only
        rw [uh HFR, uh HNL]
      have HFR2 := hide (uh HFR)
      clear hdf hmap hb5 HLC p0 p1 p2 p3
      go_wp2_with fail
      go_ret
      exact ⟨by rw [uh HFR2]; rfl, ⟨_, _, uh HDF, uh HMF⟩, uh HBF⟩
end Go.Proofs.YtidhceebafmlkaaGreatDoor.Ca
