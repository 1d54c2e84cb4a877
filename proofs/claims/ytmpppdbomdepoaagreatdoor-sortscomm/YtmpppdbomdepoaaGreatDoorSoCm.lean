/- What Comm of the program answers. -/
import Derived.Test.YtmpppdbomdepoaaGreatDoorSoThree
import Derived.Test.YtmpppdbomdepoaaGreatDoorSoCommP
import Derived.Test.YtmpppdbomdepoaaGreatDoorKyComp
import Derived.Deep.DeepCutAuto
import Derived.Deep.CutBlock
import Derived.Deep.RegionHeld3
namespace Go.Proofs.YtmpppdbomdepoaaGreatDoor.So
open Go.RowKit Go.Shelf Ky
open Pa (Tx)

attribute [local go_sem] Oper.semAt_some

set_option maxRecDepth 100000 in
set_option maxHeartbeats 1000000 in
theorem pcomm_any (A B : Ls) (a b : Option Addr) (la ca lb cb : Nat) (w : World) (hA : Tx w a la ca A) (hB : Tx w b lb cb B) (hl : la + lb ≤ 16777216) (hca : ca ≤ 9223372036854775807) (hcb : cb ≤ 9223372036854775807) :
    Calls Tryz.prog 17 #[.slice a la ca, .slice b lb cb] w fun e w' => ∃ v1 v2 v3, e = .returned (.tuple #[v1, v2, v3]) ∧ R3 w' w.heap.size v1 v2 v3 (comm A B).1 (comm A B).2.1 (comm A B).2.2 ∧ Below w.heap.size w w' := by
  obtain ⟨i0, hi, hz0, hz1, hz2⟩ := info_parts Pa.Tryz.infoStr
  have HLA := hide hA.len
  have HLB := hide hB.len
  have hac := hA.le
  have hbc := hB.le
  have TA := hide hA
  have TB := hide hB
  clear hA hB
  go_enter Tryz.func17, Tryz.ntmps17
  go_upto_block 0 with fail
  go_cut [4, 5, 6, 7, 8] (fun v7 v8 v9 v10 v11 wx => ∃ (i k : Nat) (L1 L2 L3 : Ls), i ≤ la ∧ k ≤ lb ∧ v10 = .int .i64 (i : Int) ∧ v11 = .int .i64 (k : Int) ∧ (la ≤ i ∨ lb ≤ k) ∧ Hid (Cmd A B i k L1 L2 L3) ∧ Hid (R3 wx w.heap.size v7 v8 v9 L1 L2 L3) ∧ Hid (Below w.heap.size w wx))
  case first =>
    go_wp2_with fail
    go_loopg [4, 5, 6, 7, 8] (la + lb) (fun g v7 v8 v9 v10 v11 wr => ∃ (i k : Nat) (L1 L2 L3 : Ls), i ≤ la ∧ k ≤ lb ∧ g = la + lb - (i + k) ∧ v10 = .int .i64 (i : Int) ∧ v11 = .int .i64 (k : Int) ∧ Hid (Cmd A B i k L1 L2 L3) ∧ Hid (R3 wr w.heap.size v7 v8 v9 L1 L2 L3) ∧ Hid (Below w.heap.size w wr))
    case atStart => exact ⟨0, 0, [], [], [], Nat.zero_le _, Nat.zero_le _, rfl, rfl, rfl, ⟨by simp, rfl, rfl⟩, R3.start _ _, Below.refl _ _⟩
    case round =>
      obtain ⟨i, k, L1, L2, L3, hil, hkl, rfl, rfl, rfl, hM, hR, hBl⟩ := hrel
      obtain ⟨s0, s1, s2, hv1⟩ := sl_of_own (unhide hR).o1
      obtain ⟨t0, t1, t2, hv2⟩ := sl_of_own (unhide hR).o2
      obtain ⟨q0, q1, q2, hv3⟩ := sl_of_own (unhide hR).o3
      subst hv1 hv2 hv3
      have hn1 := (unhide hM).2.1
      have hn2 := (unhide hM).2.2
      by_cases hin : i < la ∧ k < lb
      · obtain ⟨hia, hkb⟩ := hin
        have hia' : (i : Int) < (la : Int) := by omega
        have hkb' : (k : Int) < (lb : Int) := by omega
        obtain ⟨ga, oa, ha0, hga, ca0⟩ := tx_at (unhide TA) hia
        obtain ⟨gb, ob, hb0, hgb, cb0⟩ := tx_at (unhide TB) hkb
        subst ha0 hb0
        have hiA : i < A.length := by rw [unhide HLA]; exact hia
        have hkB : k < B.length := by rw [unhide HLB]; exact hkb
        have m1 := (unhide hM).less hiA hkB
        have m2 := (unhide hM).more hiA hkB
        have m3 := (unhide hM).same hiA hkB
        obtain ⟨x, hx⟩ : ∃ x, x = A.getD i ByteArray.empty := ⟨_, rfl⟩
        obtain ⟨y, hy⟩ : ∃ y, y = B.getD k ByteArray.empty := ⟨_, rfl⟩
        rw [← hx] at ca0 m1 m2 m3
        rw [← hy] at cb0 m1 m2 m3
        have hrg := good_cmpL.rg x.data.toList y.data.toList
        have CC := hide (fun W => compare_any x y W)
        generalize cmpL x.data.toList y.data.toList = n at *
        have cx := ((unhide hBl).cell (p := ⟨ga, oa + i, none⟩) hga).trans ca0
        have cy := ((unhide hBl).cell (p := ⟨gb, ob + k, none⟩) hgb).trans cb0
        have M1 := hide m1
        have M2 := hide m2
        have M3 := hide m3
        have hsz := (unhide hBl).size
        have hR2 := hide (unhide hR).drew
        have hB2 := hide (unhide hBl).drew
        clear m1 m2 m3 ca0 cb0 hx hy hM hR hBl
        rcases hrg with rfl | rfl | rfl
        · have hM2 := hide (unhide M1 rfl)
          clear M1 M2 M3
          have hS0 : wr.drew.cell? ⟨ga, oa + i, none⟩ = some (.string x) ∧ wr.drew.cell? ⟨gb, ob + k, none⟩ = some (.string y) ∧ Hid (wr.drew = wr.drew) := ⟨cx, cy, rfl⟩
          go_wp2_with fail
          go_region_held3 (fun w' => w'.cell? ⟨ga, oa + i, none⟩ = some (.string x) ∧ w'.cell? ⟨gb, ob + k, none⟩ = some (.string y) ∧ Hid (w' = wr.drew)) (first | assumption | go_keep)
            (first | ((with_reducible refine (unhide CC _).mono ?_); rintro e w9 ⟨rfl, rfl⟩) | fail)
          go_wp2_with (at_builtin; refine wpList_append_own_at _ rfl _ _ 25 rfl w.heap.size 9 i0 _ 1 16 Tryz.underlying25 hi hz0 hz1 hz2 rfl (by decide) _ _ _ rfl ((unhide hR2).alloc _).o1 ⟨wr.heap.size, 0, none⟩ 1 1 [.string x] rfl rfl (one_new2 _ _ _) (one_one2 _) (by unfold maxLen; omega) (by omega) (by simp; omega) ?_)
          intro v1 w1 hO1 hg1 _ hloc
          have hB1 : Hid (Below w.heap.size w w1) := ((unhide hB2).alloc hsz _).grown hg1 (by simp; omega) (fun z ez => ((unhide hR2).o1.lt z ez).1)
          have hO3 : w1.ownsRow w.heap.size 9 1 v1 (L1 ++ [x]).length (strs (L1 ++ [x])) := by
            rw [strs_snoc, List.length_append]
            exact hO1
          have hR3 := hide (((unhide hR2).alloc _).grow1 hO3 hg1 (by simpa using hloc))
          obtain ⟨y0, y1, y2, hv1⟩ := sl_of_own hO1
          subst hv1
          clear hO1 hg1 hO3 hloc hR2 hB2
          go_wp2_with fail
          go_roundg (la + lb - (i + 1 + k))
          case measure => omega
          case rel => exact ⟨i + 1, k, _, _, _, by omega, hkl, rfl, by go_num, rfl, hM2, hR3, hB1⟩
        · have hM2 := hide (unhide M3 rfl)
          clear M1 M2 M3
          have hS0 : wr.drew.cell? ⟨ga, oa + i, none⟩ = some (.string x) ∧ wr.drew.cell? ⟨gb, ob + k, none⟩ = some (.string y) ∧ Hid (wr.drew = wr.drew) := ⟨cx, cy, rfl⟩
          go_wp2_with fail
          go_region_held3 (fun w' => w'.cell? ⟨ga, oa + i, none⟩ = some (.string x) ∧ w'.cell? ⟨gb, ob + k, none⟩ = some (.string y) ∧ Hid (w' = wr.drew)) (first | assumption | go_keep)
            (first | ((with_reducible refine (unhide CC _).mono ?_); rintro e w9 ⟨rfl, rfl⟩) | fail)
          go_wp2_with (at_builtin; refine wpList_append_own_at _ rfl _ _ 25 rfl w.heap.size 9 i0 _ 1 16 Tryz.underlying25 hi hz0 hz1 hz2 rfl (by decide) _ _ _ rfl ((unhide hR2).alloc _).o3 ⟨wr.heap.size, 0, none⟩ 1 1 [.string x] rfl rfl (one_new2 _ _ _) (one_one2 _) (by unfold maxLen; omega) (by omega) (by simp; omega) ?_)
          intro v1 w1 hO1 hg1 _ hloc
          have hB1 : Hid (Below w.heap.size w w1) := ((unhide hB2).alloc hsz _).grown hg1 (by simp; omega) (fun z ez => ((unhide hR2).o3.lt z ez).1)
          have hO3 : w1.ownsRow w.heap.size 9 1 v1 (L3 ++ [x]).length (strs (L3 ++ [x])) := by
            rw [strs_snoc, List.length_append]
            exact hO1
          have hR3 := hide (((unhide hR2).alloc _).grow3 hO3 hg1 (by simpa using hloc))
          obtain ⟨y0, y1, y2, hv1⟩ := sl_of_own hO1
          subst hv1
          clear hO1 hg1 hO3 hloc hR2 hB2
          go_wp2_with fail
          go_roundg (la + lb - (i + 1 + (k + 1)))
          case measure => omega
          case rel => exact ⟨i + 1, k + 1, _, _, _, by omega, by omega, rfl, by go_num, by go_num, hM2, hR3, hB1⟩
        · have hM2 := hide (unhide M2 rfl)
          clear M1 M2 M3
          have hS0 : wr.drew.cell? ⟨ga, oa + i, none⟩ = some (.string x) ∧ wr.drew.cell? ⟨gb, ob + k, none⟩ = some (.string y) ∧ Hid (wr.drew = wr.drew) := ⟨cx, cy, rfl⟩
          go_wp2_with fail
          go_region_held3 (fun w' => w'.cell? ⟨ga, oa + i, none⟩ = some (.string x) ∧ w'.cell? ⟨gb, ob + k, none⟩ = some (.string y) ∧ Hid (w' = wr.drew)) (first | assumption | go_keep)
            (first | ((with_reducible refine (unhide CC _).mono ?_); rintro e w9 ⟨rfl, rfl⟩) | fail)
          go_wp2_with (at_builtin; refine wpList_append_own_at _ rfl _ _ 25 rfl w.heap.size 9 i0 _ 1 16 Tryz.underlying25 hi hz0 hz1 hz2 rfl (by decide) _ _ _ rfl ((unhide hR2).alloc _).o2 ⟨wr.heap.size, 0, none⟩ 1 1 [.string y] rfl rfl (one_new2 _ _ _) (one_one2 _) (by unfold maxLen; omega) (by omega) (by simp; omega) ?_)
          intro v1 w1 hO1 hg1 _ hloc
          have hB1 : Hid (Below w.heap.size w w1) := ((unhide hB2).alloc hsz _).grown hg1 (by simp; omega) (fun z ez => ((unhide hR2).o2.lt z ez).1)
          have hO3 : w1.ownsRow w.heap.size 9 1 v1 (L2 ++ [y]).length (strs (L2 ++ [y])) := by
            rw [strs_snoc, List.length_append]
            exact hO1
          have hR3 := hide (((unhide hR2).alloc _).grow2 hO3 hg1 (by simpa using hloc))
          obtain ⟨y0, y1, y2, hv1⟩ := sl_of_own hO1
          subst hv1
          clear hO1 hg1 hO3 hloc hR2 hB2
          go_wp2_with fail
          go_roundg (la + lb - (i + (k + 1)))
          case measure => omega
          case rel => exact ⟨i, k + 1, _, _, _, hil, by omega, rfl, rfl, by go_num, hM2, hR3, hB1⟩
      · have he : la ≤ i ∨ lb ≤ k := by omega
        have hw : ¬ (i : Int) < (la : Int) ∨ ((i : Int) < (la : Int) ∧ ¬ (k : Int) < (lb : Int)) := by omega
        rcases hw with h1 | ⟨h1, h2⟩
        all_goals
          go_wp2_with fail
          go_meet
          exact ⟨i, k, L1, L2, L3, hil, hkl, rfl, rfl, he, hM, hR, hBl⟩
  case rest =>
    obtain ⟨i, k, L1, L2, L3, hil, hkl, rfl, rfl, he, hM, hR, hBl⟩ := hcut
    obtain ⟨s0, s1, s2, hv1⟩ := sl_of_own (unhide hR).o1
    obtain ⟨t0, t1, t2, hv2⟩ := sl_of_own (unhide hR).o2
    obtain ⟨q0, q1, q2, hv3⟩ := sl_of_own (unhide hR).o3
    subst hv1 hv2 hv3
    have hn1 := (unhide hM).2.1
    have hn2 := (unhide hM).2.2
    have hres := (unhide hM).done (by rw [unhide HLA, unhide HLB]; exact he)
    have HRES := hide hres
    obtain ⟨a1, c1, slA, nA, cA⟩ := slice_from (unhide TA) hca i hil
    obtain ⟨b1, d1, slB, nB, cB⟩ := slice_from (unhide TB) hcb k hkl
    have NA := hide nA
    have NB := hide nB
    have CA := hide cA
    have CB := hide cB
    have LNA : Hid ((strs (A.drop i)).length = (la - i) * 1) := by show _ = _; rw [strs_len, List.length_drop, unhide HLA]; omega
    have LNB : Hid ((strs (B.drop k)).length = (lb - k) * 1) := by show _ = _; rw [strs_len, List.length_drop, unhide HLB]; omega
    have LNA2 : Hid ((A.drop i).length = la - i) := by show _ = _; rw [List.length_drop, unhide HLA]
    have LNB2 : Hid ((B.drop k).length = lb - k) := by show _ = _; rw [List.length_drop, unhide HLB]
    have hRc := hide (unhide hR).drew
    have hBc := hide (unhide hBl).drew
    clear hres nA nB cA cB hR hBl hM TA TB he
    go_wp2_with fail
    go_region_held3 (fun _ => True) (trivial) (first | (refine step_append_src rfl _ _ 25 rfl w.heap.size 9 i0 _ 1 16 Tryz.underlying25 hi hz0 hz1 hz2 rfl (by decide) _ _ _ rfl (unhide hRa).o2 _ _ _ (strs (B.drop k)) rfl (unhide LNB) (unhide NB) (unhide CB _ (unhide hBa)) (strs_one _) (by unfold maxLen; omega) (by omega) (unhide hBa).size ?_; intro va2 wa2 ho2 hg2 hl2; have hRb := hide ((unhide hRa).grow2 (L' := L2 ++ (B.drop k)) (by rw [strs_app, List.length_append, unhide LNB2]; exact ho2) hg2 hl2); have hBb := hide ((unhide hBa).grown hg2 (unhide hBa).size (fun z ez => ((unhide hRa).o2.lt z ez).1)); obtain ⟨x20, x21, x22, hx2⟩ := sl_of_own ho2; subst hx2; clear ho2 hg2 hl2) | (refine step_append_src rfl _ _ 25 rfl w.heap.size 9 i0 _ 1 16 Tryz.underlying25 hi hz0 hz1 hz2 rfl (by decide) _ _ _ rfl (unhide hRc).o1 _ _ _ (strs (A.drop i)) rfl (unhide LNA) (unhide NA) (unhide CA _ (unhide hBc)) (strs_one _) (by unfold maxLen; omega) (by omega) (unhide hBc).size ?_; intro va1 wa1 ho1 hg1 hl1; have hRa := hide ((unhide hRc).grow1 (L' := L1 ++ (A.drop i)) (by rw [strs_app, List.length_append, unhide LNA2]; exact ho1) hg1 hl1); have hBa := hide ((unhide hBc).grown hg1 (unhide hBc).size (fun z ez => ((unhide hRc).o1.lt z ez).1)); obtain ⟨x10, x11, x12, hx1⟩ := sl_of_own ho1; subst hx1; clear ho1 hg1 hl1))
    go_wp2_with fail
    first | go_ret3 | go_ret2
    exact ⟨_, _, _, rfl, by rw [unhide HRES]; exact unhide hRb, unhide hBb⟩
end Go.Proofs.YtmpppdbomdepoaaGreatDoor.So
