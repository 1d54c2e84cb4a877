/- A node of a tree of one's own has lost a name. -/
import Derived.Test.YtpcklgbcabpilaaGreatDoorCaNew
namespace Go.Proofs.YtpcklgbcabpilaaGreatDoor.Ca
open Go.RowKit Go.Proofs.YtpcklgbcabpilaaGreatDoor.Cu Go.Proofs.YtpcklgbcabpilaaGreatDoor.Tr Go.Proofs.YtpcklgbcabpilaaGreatDoor.Pm Go.Proofs.YtpcklgbcabpilaaGreatDoor.Pt

theorem last_self (ns : List Nd) (k : Nat) (h : ¬ (1 < k ∧ (nd ns k).kind = 0)) : lastAt ns k = k := by
  cases k with
  | zero => rfl
  | succ k => rw [lastAt, if_neg h]
theorem last_down (ns : List Nd) (k : Nat) (h1 : 1 < k + 1) (h0 : (nd ns (k + 1)).kind = 0) : lastAt ns (k + 1) = lastAt ns k := by rw [lastAt, if_pos ⟨h1, h0⟩]
theorem Df.ten {w : World} {B D g n c : Nat} {now : Int} {l : List Nv} (h : Df w B D now (sg g n c) l) (i : Nat) (hi : i < l.length) {m : Nd} {dv lv : Value} (hx : l.getD i zNv = (m, dv, lv)) : N10 w g (i * 10) m dv lv := by
  have q : ∀ j, j < 10 → w.cell? ⟨g, i * 10 + j, none⟩ = (nc m dv lv)[j]? := fun j hj => by
    have := h.cell i j hi hj
    rw [hx] at this
    exact this
  exact ⟨q 0 (by omega), q 1 (by omega), q 2 (by omega), q 3 (by omega), q 4 (by omega), q 5 (by omega), q 6 (by omega), q 7 (by omega), q 8 (by omega), q 9 (by omega)⟩
theorem loseD_eq {ns : List Nd} {m : Nat} {md : Nd} (h : nd (upd ns m fun x => { x with links := x.links - 1 }) m = md) : loseD ns m =
    if 0 < md.links ∧ md.kind ≠ 2 then upd ns m fun x => { x with links := x.links - 1 }
    else ((upd ns m fun x => { x with links := x.links - 1 }).set m nz).take (lastAt ((upd ns m fun x => { x with links := x.links - 1 }).set m nz) (((upd ns m fun x => { x with links := x.links - 1 }).set m nz).length - 1) + 1) := by
  unfold loseD
  simp only [h]
set_option maxRecDepth 100000 in
set_option maxHeartbeats 4000000 in
theorem lose_any (B D : Nat) (now : Int) (v : Value) (l : List Nv) (m : Nat) (w : World) (h : Df w B D now v l) (hm : m < l.length) (h2 : 2 ≤ l.length) (hn6 : l.length ≤ 1000000) (hlk : -1000000000 ≤ (l.getD m zNv).1.links ∧ (l.getD m zNv).1.links ≤ 1000000000) :
    Calls Tryz.prog 206 #[.pointer (some ⟨D, 0, none⟩), .int .i64 m] w fun e w' => e = .returned (.tuple #[]) ∧ (∃ v' l', Df w' B D now v' l' ∧ l'.map (·.1) = loseD (l.map (·.1)) m) ∧ Below B w w' := by
  obtain ⟨g, c, hvg⟩ := h.at (by omega)
  obtain ⟨n, hn⟩ : ∃ n, n = l.length := ⟨_, rfl⟩
  rw [← hn] at hvg
  subst hvg
  have hnc : n ≤ c := by
    rcases h.rown.2 with ⟨h0, _⟩ | ⟨g', c', cur, h1, _, _, h4, _⟩
    · cases h0
    · injection h1 with _ _ h1; omega
  obtain ⟨md, dv, lv, hx⟩ : ∃ md dv lv, l.getD m zNv = (md, dv, lv) := ⟨_, _, _, rfl⟩
  rw [hx] at hlk
  simp only at hlk
  have hmn : (m : Int) < (n : Int) := by omega
  have hgB := h.ne.2.1
  have hMD : nd (l.map (·.1)) m = md := by rw [← getD_fst l m hm, hx]
  obtain ⟨ns1, hns1⟩ : ∃ ns1, ns1 = upd (l.map (·.1)) m fun x => { x with links := x.links - 1 } := ⟨_, rfl⟩
  have hml : m < (l.map (·.1)).length := by simpa using hm
  have hN1 : nd ns1 m = { md with links := md.links - 1 } := by rw [hns1]; unfold upd; rw [hMD]; simp [nd, List.getD, hm]
  have hL := loseD_eq (ns := l.map (·.1)) (m := m) (md := { md with links := md.links - 1 }) (by rw [← hns1]; exact hN1)
  rw [← hns1] at hL
  simp only at hL
  have HD1' := hide (h.upd1 m 4 (.int .i64 (md.links - 1)) (fun x => { x with links := x.links - 1 }) hm (by omega) (fun m' dv' lv' => by
    by_cases e : l.getD m zNv = (m', dv', lv')
    · refine .inl ?_
      rw [hx] at e
      injection e with e _
      rw [← e]; rfl
    · exact .inr e) (fun _ => rfl) (fun _ => rfl))
  have hm1 : (updL l m fun x => { x with links := x.links - 1 }).map (·.1) = ns1 := by rw [hns1]; exact updL_fst l m hm _
  have hl1 : (updL l m fun x => { x with links := x.links - 1 }).length = n := by rw [updL_len, hn]
  have hx1 : (updL l m fun x => { x with links := x.links - 1 }).getD m zNv = ({ md with links := md.links - 1 }, dv, lv) := by rw [updL_getD, if_pos ⟨rfl, hm⟩, hx]
  have hbb := (Below.refl w.heap.size w)
  obtain ⟨cD0, -, -⟩ := h.cells
  have k4 := (h.ten m hm hx).c4
  have f4 := h.frozen (m * 10 + 4)
  have BB0 : Hid (Below B w w) := (Below.refl w.heap.size w).mono (by have := h.hD; have := h.size; omega)
  have HM1 := hide hm1
  have HL1 := hide hl1
  have HX1 := hide hx1
  have HLO := hide hL
  have hB2 : 2 ≤ n := by omega
  have hB6 : n ≤ 1000000 := by omega
  have HML : Hid (m < n) := by show m < n; omega
  clear h hm hx hMD hns1 hml hN1 hL hm1 hl1 hx1 hbb hn h2 hn6
  generalize updL l m (fun x => { x with links := x.links - 1 }) = l1 at *
  obtain ⟨lo, hi⟩ := hlk
  obtain ⟨L1, hL1⟩ : ∃ L1, L1 = md.links - 1 := ⟨_, rfl⟩
  obtain ⟨K, hK⟩ : ∃ K, K = md.kind := ⟨_, rfl⟩
  rw [← hL1] at HD1' HX1 HLO
  rw [← hK] at HLO
  obtain ⟨L0, hL0⟩ : ∃ L0, L0 = md.links := ⟨_, rfl⟩
  rw [← hL0] at k4 lo hi
  have hL01 : L0 - 1 = L1 := by omega
  have HL01 := hide hL01
  obtain ⟨W1, hW1⟩ : ∃ W, W = w.setCell ⟨g, m * 10 + 4, none⟩ (.int .i64 L1) := ⟨_, rfl⟩
  have HD1 : Hid (Df W1 B D now (sg g n c) l1) := by rw [hW1]; exact unhide HD1'
  have BB1 : Hid (Below B w W1) := by rw [hW1]; exact (unhide BB0).setCell (p := ⟨g, m * 10 + 4, none⟩) hgB _
  have HW1 := hide hW1
  clear hW1 HD1' hL01 BB0 hL1 hL0
  go_enter Tryz.func206, Tryz.ntmps206
  go_upto_region 2 with fail
  rw [unhide HL01, ← unhide HW1]
  clear cD0 k4 f4 HW1 HL01 lo hi
  obtain ⟨n0, n1, n2, n3, n4, n5, n6, n7, n8, n9⟩ := (unhide HD1).ten m (by rw [unhide HL1]; exact unhide HML) (unhide HX1)
  simp only at n0 n1 n2 n3 n4 n5 n6 n7 n8 n9
  rw [← hK] at n0
  obtain ⟨q, hq⟩ : ∃ q : Bool, Hid (q = decide (0 < L1 ∧ K ≠ 2)) := ⟨_, rfl⟩
  have HLO2 : Hid (loseD (l.map (·.1)) m = if q = true then ns1 else (ns1.set m nz).take (lastAt (ns1.set m nz) ((ns1.set m nz).length - 1) + 1)) := by
    show _ = _
    rw [unhide HLO, unhide hq]
    simp only [decide_eq_true_eq]
  clear HLO hK
  go_cut [31] (fun x wx => W1 = wx ∧ x = .bool q)
  case first =>
    have hq' := unhide hq
    clear HLO2 hq
    by_cases h1 : 0 < L1
    · by_cases h2 : K = 2
      · have e : q = false := by rw [hq']; simp [h2]
        subst e h2
        have n0' : W1.cell? ⟨g, m * 10, none⟩ = some (.int .u8 2) := n0
        clear n0 hq'
        go_wp2_with fail
        go_meet
        exact ⟨rfl, rfl⟩
      · have e : q = true := by rw [hq']; simp [h1, h2]
        have hk2 : ¬ ((K.toNat : Int) = 2) := fun e => h2 (UInt8.toNat_inj.1 (by show K.toNat = 2; omega))
        have hk3 : ((K.toNat : Int) != 2) = true := by simpa using hk2
        subst e
        clear hq' h2
        generalize K.toNat = KN at *
        go_wp2_with fail
        go_meet
        exact ⟨rfl, rfl⟩
    · have e : q = false := by rw [hq']; simp [h1]
      subst e
      clear hq'
      go_wp2_with fail
      go_meet
      exact ⟨rfl, rfl⟩
  case rest =>
    obtain ⟨rfl, rfl⟩ := hcut
    cases q with
    | true =>
      have HF : Hid (l1.map (·.1) = loseD (l.map (·.1)) m) := by show _ = _; rw [unhide HM1, unhide HLO2, if_pos rfl]
      clear n0 n1 n2 n3 n4 n5 n6 n7 n8 n9 HLO2 hq
      go_wp2_with fail
      refine bodyPost_ret (results_none rfl _ _ _) rfl ?_
      exact ⟨rfl, ⟨_, _, unhide HD1, unhide HF⟩, unhide BB1⟩
    | false =>
      have HLO : Hid (loseD (l.map (·.1)) m = (ns1.set m nz).take (lastAt (ns1.set m nz) ((ns1.set m nz).length - 1) + 1)) := by show _ = _; rw [unhide HLO2, if_neg (by decide)]
      have f0 := (unhide HD1).frozen (m * 10)
      have f1 := (unhide HD1).frozen (m * 10 + 1); have f2 := (unhide HD1).frozen (m * 10 + 2); have f3 := (unhide HD1).frozen (m * 10 + 3); have f4 := (unhide HD1).frozen (m * 10 + 4); have f5 := (unhide HD1).frozen (m * 10 + 5); have f6 := (unhide HD1).frozen (m * 10 + 6); have f7 := (unhide HD1).frozen (m * 10 + 7); have f8 := (unhide HD1).frozen (m * 10 + 8); have f9 := (unhide HD1).frozen (m * 10 + 9)
      obtain ⟨W2, hW2⟩ : ∃ W, W = ((((((((((W1.setCell ⟨g, m * 10, none⟩ (.int .u8 0)).setCell ⟨g, m * 10 + 1, none⟩ (.int .i64 0)).setCell ⟨g, m * 10 + 2, none⟩ (.int .i64 0)).setCell ⟨g, m * 10 + 3, none⟩ (.int .i64 0)).setCell ⟨g, m * 10 + 4, none⟩ (.int .i64 0)).setCell ⟨g, m * 10 + 5, none⟩ (.int .i64 0)).setCell ⟨g, m * 10 + 6, none⟩ (.slice none 0 0)).setCell ⟨g, m * 10 + 7, none⟩ (.string ⟨#[]⟩)).setCell ⟨g, m * 10 + 8, none⟩ (.slice none 0 0)).setCell ⟨g, m * 10 + 9, none⟩ (.int .i64 0)) := ⟨_, rfl⟩
      have HD2 : Hid (Df W2 B D now (sg g n c) (l1.set m (nz, nl, nl))) := by rw [hW2]; exact (unhide HD1).put m (by rw [unhide HL1]; exact unhide HML) nz rfl rfl
      have BB2 : Hid (Below B w W2) := by rw [hW2]; exact set10_bel (unhide BB1) (m * 10) hgB (.int .u8 0) (.int .i64 0) (.int .i64 0) (.int .i64 0) (.int .i64 0) (.int .i64 0) (.slice none 0 0) (.string ⟨#[]⟩) (.slice none 0 0) (.int .i64 0)
      have HM2 : Hid ((l1.set m (nz, nl, nl)).map (·.1) = ns1.set m nz) := by show _ = _; rw [set_fst, unhide HM1]
      have HL2 : Hid ((l1.set m (nz, nl, nl)).length = n) := by show _ = _; rw [List.length_set]; exact unhide HL1
      have HN2 : Hid ((ns1.set m nz).length = n) := by show _ = _; rw [← unhide HM2, List.length_map]; exact unhide HL2
      have HW2 := hide hW2
      clear hW2 HD1 BB1 HLO2 hq HX1 HM1 HL1
      generalize l1.set m (nz, nl, nl) = l2 at *
      generalize ns1.set m nz = ns2 at *
      clear l1
      go_upto_region 4 with fail
      rw [← unhide HW2]
      clear HW2 n0 n1 n2 n3 n4 n5 n6 n7 n8 n9 f0 f1 f2 f3 f4 f5 f6 f7 f8 f9
      rw [unhide HN2] at HLO
      obtain ⟨cD0, -, fD0⟩ := (unhide HD2).cells
      have HK2 : Hid (∀ k, k < n → W2.cell? ⟨g, k * 10, none⟩ = some (.int .u8 (nd ns2 k).kind.toNat)) := fun k hk => by
        obtain ⟨a, b, d, hx⟩ : ∃ a b d, l2.getD k zNv = (a, b, d) := ⟨_, _, _, rfl⟩
        have q := ((unhide HD2).ten k (by rw [unhide HL2]; exact hk) hx).c0
        rw [← unhide HM2, ← getD_fst l2 k (by rw [unhide HL2]; exact hk), hx]
        exact q
      obtain ⟨n', hn'⟩ : ∃ n', n = n' + 1 := ⟨n - 1, by omega⟩
      have hnn : ((n : Int) - 1) = (n' : Int) := by omega
      go_wp2_with fail
      go_loopw [5] (fun v5 wr => ∃ k : Nat, k + 1 ≤ n ∧ v5 = .int .i64 k ∧ W2 = wr ∧ Hid (lastAt ns2 k = lastAt ns2 (n - 1))) (fun v5 _ => (intOf v5).toNat)
      case atStart => exact ⟨n', by omega, by go_num, rfl, by show _ = _; rw [show n - 1 = n' by omega]⟩
      case round =>
        obtain ⟨k, hkn, rfl, rfl, hlast⟩ := hrel
        have c0 := unhide HK2 k (by omega)
        by_cases h1 : 1 < k
        · have h1' : (1 : Int) < (k : Int) := by omega
          have hkn' : (k : Int) < (n : Int) := by omega
          by_cases h0 : (nd ns2 k).kind = 0
          · rw [h0] at c0
            have c0' : W2.cell? ⟨g, k * 10, none⟩ = some (.int .u8 0) := c0
            obtain ⟨k', hk'⟩ : ∃ k', k = k' + 1 := ⟨k - 1, by omega⟩
            have hlast2 : Hid (lastAt ns2 k' = lastAt ns2 (n - 1)) := by
              show _ = _
              rw [← unhide hlast, hk', last_down ns2 k' (by omega) (by rw [← hk']; exact h0)]
            have hkk : ((k : Int) - 1) = (k' : Int) := by omega
            clear hlast c0 h0 hk'
            go_wp2_with fail
            go_roundw
            case rel => exact ⟨k', by omega, by go_num, by simp, hlast2⟩
            case measure => simp [intOf]; omega
          · have HKX := last_self ns2 k (fun h => h0 h.2)
            have hk2 : ¬ (((nd ns2 k).kind.toNat : Int) = 0) := fun e => h0 (UInt8.toNat_inj.1 (by show (nd ns2 k).kind.toNat = 0; omega))
            have hk3 : (((nd ns2 k).kind.toNat : Int) == 0) = false := by simpa using hk2
            generalize (nd ns2 k).kind.toNat = KN at *
            clear h0
            have hO : Hid (lastAt ns2 k = k) := hide HKX
            have HD3 := hide ((unhide HD2).cut (k + 1) hkn)
            have HM3 : Hid ((l2.take (k + 1)).map (·.1) = loseD (l.map (·.1)) m) := by
              show _ = _
              rw [List.map_take, unhide HM2, unhide HLO, ← unhide hlast, unhide hO]
            have BB3 := hide ((unhide BB2).setCell (p := ⟨D, 0, none⟩) (unhide HD2).hD (sg g (k + 1) c))
            have hkc : ((k : Int) + 1) ≤ (c : Int) := by omega
            clear hlast
            go_wp2_with fail
            go_end0
            exact ⟨rfl, ⟨_, _, unhide HD3, unhide HM3⟩, unhide BB3⟩
        · have HKX := last_self ns2 k (fun h => h1 h.1)
          have h1' : ¬ (1 : Int) < (k : Int) := by omega
          clear c0
          have hO : Hid (lastAt ns2 k = k) := hide HKX
          have HD3 := hide ((unhide HD2).cut (k + 1) hkn)
          have HM3 : Hid ((l2.take (k + 1)).map (·.1) = loseD (l.map (·.1)) m) := by
            show _ = _
            rw [List.map_take, unhide HM2, unhide HLO, ← unhide hlast, unhide hO]
          have BB3 := hide ((unhide BB2).setCell (p := ⟨D, 0, none⟩) (unhide HD2).hD (sg g (k + 1) c))
          have hkc : ((k : Int) + 1) ≤ (c : Int) := by omega
          clear hlast
          go_wp2_with fail
          go_end0
          exact ⟨rfl, ⟨_, _, unhide HD3, unhide HM3⟩, unhide BB3⟩
end Go.Proofs.YtpcklgbcabpilaaGreatDoor.Ca
