/- What opts.Parse answers: the walk of its loops. -/
import Derived.Test.YtamgehfppeknhaaDoorParseWalk
namespace Go.Proofs.YtamgehfppeknhaaDoor.Pa
open Go.RowKit

theorem Tryd.infoFlag : (Tryd.prog.info? 59).map (fun i => (i.zero, i.size, i.bytes)) = some (some (.agg #[.int .u8 0, .string ByteArray.empty]), 2, 24) := by kernel_rfl
theorem Tryd.infoStr : (Tryd.prog.info? 9).map (fun i => (i.zero, i.size, i.bytes)) = some (some (.string ByteArray.empty), 1, 16) := by kernel_rfl

set_option maxHeartbeats 1000000 in
set_option maxRecDepth 100000 in
theorem parse_any (which : ByteArray) (a : Option Addr) (n cap : Nat) (ss : List ByteArray) (w : World) (hT : Tx w a n cap ss) (hs : which.size ≤ 4611686018427387900) (hn : n ≤ 4611686018427387900)
    (hss : ∀ s ∈ ss, s.size ≤ maxLen) (htot : (∀ s, ss.head? = some s → isOpt s.data.toList = true) → tot ss ≤ 4194304) :
    Calls Tryd.prog 7 #[.string which, .slice a n cap] w (PaPost w which ss) := by
  have HT : Hid (Tx w a n cap ss) := hT
  have HSS : Hid (∀ s ∈ ss, s.size ≤ maxLen) := hss
  have HTOT := hide htot
  clear hT hss htot
  obtain ⟨i0, hi, hz0, hz1, hz2⟩ := info_parts Tryd.infoFlag
  obtain ⟨i1, hi1, hy0, hy1, hy2⟩ := info_parts Tryd.infoStr
  go_enter Tryd.func7, Tryd.ntmps7
  go_wp2_with fail
  go_step3
  go_wp2_with fail
  refine (readWhich_any which _ hs).mono ?_
  rintro e w1 ⟨hcase, hb1⟩
  have hbw : Below w.heap.size w w1 := ((Below.refl _ _).alloc (Nat.le_refl _) _).trans (hb1.mono (by simp))
  have hs1 : w.heap.size + 1 ≤ w1.heap.size := by have := hb1.size; simpa using this
  have hbox : w1.cell? ⟨w.heap.size, 0, none⟩ = some (.slice a n cap) := (hb1.cell (by simp)).trans (by simp)
  clear hb1
  have HB : Hid (Below w.heap.size w w1) := hbw
  clear hbw
  rcases hcase with ⟨hno, rfl⟩ | ⟨K, nn, hK, rfl, hM⟩
  · have HN := hide hno
    clear hno
    go_wp2_with fail
    rw [Exit.noGoto_ret]
    go_ret3
    exact PaPost.nix (parse_arg (unhide HN)) (unhide HB)
  · have HK := hide hK
    have hM' : Mp w1 (w.heap.size + 1) nn K := by simpa using hM
    have HM := hide hM'
    have hs2 : w.heap.size + 1 < w1.heap.size := by simpa using hM.lt
    clear hK hM hM'
    have hl : Hid (ss.length = n) := (unhide HT).len
    by_cases h256 : 256 < (n : Int)
    · go_wp2_with fail
      rw [Exit.noGoto_ret]
      go_ret3
      exact PaPost.nix (parse_limit (unhide HK) (by rw [unhide hl]; omega)) (unhide HB)
    · go_wp2_with fail
      go_step3
      go_wp2_with fail
      go_loopg [11] n (fun g v wr => ∃ (k : Nat) (fl : Fl), k + g = n ∧ Hid (Inv w wr w.heap.size w1.heap.size (w.heap.size + 1) nn K a n cap k v fl) ∧ Hid (words K (ss.drop k) fl = words K ss []) ∧
          Hid (k = 0 ∨ tot ss ≤ 4194304) ∧ Hid (fl.length + tot (ss.drop k) ≤ tot ss))
      case atStart =>
        refine ⟨0, [], by omega, ?_, rfl, .inl rfl, by simp [Hid]⟩
        exact {
          at' := by simp
          free := by simp
          box := by simpa using (World.grownBy_alloc w1 _ none).cell hbox (by simp)
          map := (unhide HM).kept (World.grownBy_alloc w1 _ none) (by simp)
          row := World.ownsRow_nil _ _ _ _
          bel := (unhide HB).alloc (unhide HB).size _
          lt := by simp
          b1 := Nat.le_refl _
          b2 := by omega
          b3 := by omega
          b4 := by omega }
      case round =>
        clear hbox
        obtain ⟨k, fl, hkg, hI, hW, hk0, hfl⟩ := hrel
        have hat := (unhide hI).at'
        have hfr := (unhide hI).free
        have hbx := (unhide hI).box
        have hTw : Hid (Tx wr a n cap ss) := (unhide HT).below (unhide hI).bel
        have hcap : n ≤ cap := (unhide HT).le
        cases gk with
        | zero =>
          obtain rfl : k = n := by omega
          have hWd : Hid (words K ss [] = some (fl, ss.drop k)) := by
            rw [← unhide hW, List.drop_eq_nil_of_le (by rw [unhide hl]; omega)]; rfl
          clear hW
          go_wp2_with fail
          refine (next_end _ _ _ _ _ _ hat hbx).mono ?_
          rintro e w2 ⟨rfl, rfl⟩
          go_wp2_with (at_builtin; refine wpList_append_src rfl _ 22 rfl w2.heap.size 9 i1 _ 1 16 Tryd.underlying22 hi1 hy0 hy1 hy2 rfl (by decide) _ _ _ ((ss.drop (k)).map Value.string) rfl (by exact src_none (unhide hTw) (k) _ _ (by omega) (by omega)) (by exact src_len (unhide hTw) (k) _ (by omega)) (by exact src_cells (unhide hTw) (k)) (texts_one _) (by unfold maxLen; omega) (by omega) (Nat.le_refl _) ?_; intro vt w9 hvt hg9)
          all_goals
            try rw [Exit.noGoto_ret]
            go_ret3
            exact PaPost.ok (unhide hI) hg9 hvt (by have := unhide hl; simp only [List.length_drop]; omega) rfl (parse_ok (unhide HK) (by rw [unhide hl]; omega) (unhide hWd))
        | succ g =>
          have hkn : k < ss.length := by rw [unhide hl]; omega
          have hkn' : k < n := by omega
          obtain ⟨b, off, rfl, hbl, hcs⟩ : ∃ b off, a = some ⟨b, off, none⟩ ∧ b < w.heap.size ∧ ∀ i, i < n → w.cell? ⟨b, off + i, none⟩ = some (.string (ss.getD i ByteArray.empty)) := by
            rcases (unhide HT).cells with h | h
            · omega
            · exact h
          obtain ⟨wd, hwd⟩ : ∃ wd, wd = ss[k] := ⟨_, rfl⟩
          have HWD := hide hwd
          have hws : wd.size ≤ 9223372036854775807 := by
            have := (unhide HSS) wd (by rw [hwd]; exact List.getElem_mem hkn)
            unfold maxLen at this; omega
          have hcx : wr.cell? ⟨b, off + k, none⟩ = some (.string wd) := by
            rw [(unhide hI).bel.cell (p := ⟨b, off + k, none⟩) hbl, hcs k hkn', hwd]
            simp [List.getD, List.getElem?_eq_getElem hkn]
          have HCS : Hid (∀ i, i < n → w.cell? ⟨b, off + i, none⟩ = some (.string (ss.getD i ByteArray.empty))) := hcs
          have hb1 := (unhide hI).b1
          have hb2 := (unhide hI).b2
          have hnx := next_some _ _ b off n cap k wd wr hat hfr hbx hkn' (by omega) hcx (by omega) (by omega)
          have HNX := hide hnx
          clear hcs hwd hnx hcx hat hfr hbx
          go_wp2_with fail
          refine (unhide HNX).mono ?_
          rintro e w3 ⟨rfl, hw3⟩
          have hI3 : Hid (Inv w w3 w.heap.size w1.heap.size (w.heap.size + 1) nn K (some ⟨b, off, none⟩) n cap (k + 1) u11 fl) := by rw [hw3]; exact (unhide hI).next (k + 1)
          clear hw3 HNX hI hTw
          have hTw : Hid (Tx w3 (some ⟨b, off, none⟩) n cap ss) := (unhide HT).below (unhide hI3).bel
          have hat := (unhide hI3).at'
          have hfr := (unhide hI3).free
          have hbx := (unhide hI3).box
          have hle3 := (unhide hI3).lt
          by_cases hd : wd.data.toList = [45, 45]
          · have hx : (wd.toList == [45, 45]) = true := by rw [ByteArray.toList_eq, hd]; rfl
            have hWd : Hid (words K ss [] = some (fl, ss.drop (k + 1))) := by
              rw [← unhide hW]; exact words_dash hkn (by rw [← unhide HWD]; exact hd)
            clear hd hW
            go_wp2_with (at_builtin; refine wpList_append_src rfl _ 22 rfl w3.heap.size 9 i1 _ 1 16 Tryd.underlying22 hi1 hy0 hy1 hy2 rfl (by decide) _ _ _ ((ss.drop (k + 1)).map Value.string) rfl (by exact src_none (unhide hTw) (k + 1) _ _ (by omega) (by omega)) (by exact src_len (unhide hTw) (k + 1) _ (by omega)) (by exact src_cells (unhide hTw) (k + 1)) (texts_one _) (by unfold maxLen; omega) (by omega) (Nat.le_refl _) ?_; intro vt w9 hvt hg9)
            all_goals
              try rw [Exit.noGoto_ret]
              go_ret3
              exact PaPost.ok (unhide hI3) hg9 hvt (by have := unhide hl; simp only [List.length_drop]; omega) rfl (parse_ok (unhide HK) (by rw [unhide hl]; omega) (unhide hWd))
          · have hx : (wd.toList == [45, 45]) = false := by rw [ByteArray.toList_eq]; simpa using hd
            cases ho : isOpt wd.data.toList
            · have hWd : Hid (words K ss [] = some (fl, ss.drop k)) := by
                rw [← unhide hW]; exact words_stop hkn (by rw [← unhide HWD]; exact hd) (by rw [← unhide HWD]; exact ho)
              have HO := hide ho
              clear hd hW ho
              go_wp2_with fail
              refine (tells_any wd _ (by unfold maxLen; omega)).mono ?_
              rintro e w4 ⟨rfl, hw4⟩
              rw [unhide HO, hw4]
              clear hw4
              have hI4 := hide ((unhide hI3).next k)
              have hTw4 : Hid (Tx _ (some ⟨b, off, none⟩) n cap ss) := (unhide HT).below (unhide hI4).bel
              have hbx4 := (unhide hI4).box
              have hat4 := (unhide hI4).at'
              go_wp2_with (at_builtin; refine wpList_append_src rfl _ 22 rfl (w3.setCell ⟨w1.heap.size, 0, none⟩ (.int .i64 k)).heap.size 9 i1 _ 1 16 Tryd.underlying22 hi1 hy0 hy1 hy2 rfl (by decide) _ _ _ ((ss.drop k).map Value.string) rfl (by intro h; cases h) (by exact src_len (unhide hTw4) k _ (by omega)) (by exact src_cells2 (unhide hTw4) k hkn') (texts_one _) (by unfold maxLen; omega) (by omega) (Nat.le_refl _) ?_; intro vt w9 hvt hg9)
              all_goals
                try rw [Exit.noGoto_ret]
                go_ret3
                exact PaPost.ok (unhide hI4) hg9 hvt (by have := unhide hl; simp only [List.length_drop]; omega) rfl (parse_ok (unhide HK) (by rw [unhide hl]; omega) (unhide hWd))
            · have hTB : tot ss ≤ 4194304 := by
                rcases unhide hk0 with h | h
                · subst h
                  refine unhide HTOT fun s hs => ?_
                  have : s = wd := by
                    rw [unhide HWD]
                    rw [List.head?_eq_getElem?, List.getElem?_eq_getElem hkn] at hs
                    exact (Option.some.inj hs).symm
                  rw [this]; exact ho
                · exact h
              have hsz1 := isOpt_size ho
              have hWo : Hid (after K (ss.drop (k + 1)) (lets K (ss.drop (k + 1)).head? (wd.data.toList.drop 1) fl) = words K ss []) := by
                rw [← unhide hW, words_opt hkn (by rw [← unhide HWD]; exact hd) (by rw [← unhide HWD]; exact ho), unhide HWD]
                exact rfl
              have hfl2 : Hid (fl.length + (wd.size - 1) + tot (ss.drop (k + 1)) ≤ tot ss) := by
                have := unhide hfl
                rw [tot_at hkn, ← unhide HWD] at this
                show _ ≤ _
                omega
              have HO := hide ho
              clear hd hW ho hfl hk0
              go_wp2_with fail
              refine (tells_any wd _ (by unfold maxLen; omega)).mono ?_
              rintro e w4 ⟨rfl, hw4⟩
              rw [unhide HO, hw4]
              clear hw4
              clear hat hfr hbx
              go_wp2_with fail
              go_loopg [11, 13, 14] (wd.size - 1) (fun g2 s11 s13 s14 wy => ∃ (i : Nat) (f2 : Fl), i + g2 = wd.size ∧ s14 = .int .i64 i ∧ s13 = .bool true ∧ 1 ≤ i ∧
                  Hid (Inv w wy w.heap.size w1.heap.size (w.heap.size + 1) nn K (some ⟨b, off, none⟩) n cap (k + 1) s11 f2) ∧
                  Hid (after K (ss.drop (k + 1)) (lets K (ss.drop (k + 1)).head? (wd.data.toList.drop i) f2) = words K ss []) ∧
                  Hid (f2.length + (wd.size - i) + tot (ss.drop (k + 1)) ≤ tot ss))
              case atStart => exact ⟨1, fl, by omega, rfl, rfl, Nat.le_refl _, hI3, hWo, hfl2⟩
              case round =>
                clear hI3 hWo hfl2 hTw
                obtain ⟨i, f2, hig, rfl, rfl, hi1', hI, hW, hfl⟩ := hrel
                cases gk with
                | zero =>
                  obtain rfl : i = wd.size := by omega
                  have hW9 : Hid (words K (ss.drop (k + 1)) f2 = words K ss []) := by
                    rw [← unhide hW, lets_end K _ wd wd.size f2 (Nat.le_refl _)]; exact rfl
                  clear hW
                  go_wp2_with fail
                  go_roundg g
                  case measure => omega
                  case rel => exact ⟨k + 1, f2, by omega, hI, hW9, .inr hTB, by have := unhide hfl; show _ ≤ _; omega⟩
                | succ g2 =>
                  have hlt : i < wd.size := by omega
                  have hc0 : (0 : Int) ≤ (wd[i].toNat : Int) := by omega
                  have hc1 : (wd[i].toNat : Int) ≤ 255 := by have := wd[i].toNat_lt; omega
                  have hlook := (unhide hI).map.look hc0 hc1
                  have hf2 : f2.length + 1 ≤ 4194304 := by have := unhide hfl; omega
                  have hat := (unhide hI).at'
                  have hfr := (unhide hI).free
                  have hbx := (unhide hI).box
                  by_cases hk1 : K (wd[i].toNat : Int) = 1
                  · have hx1 : (K (wd[i].toNat : Int) == 1) = true := by simp [hk1]
                    have hW9 : Hid (after K (ss.drop (k + 1)) (lets K (ss.drop (k + 1)).head? (wd.data.toList.drop (i + 1)) (f2 ++ [((wd[i].toNat : Int), ByteArray.empty)])) = words K ss []) := by
                      rw [← unhide hW, lets_one K _ wd i f2 hlt hk1]; exact rfl
                    clear hW hk1
                    go_wp2_with (at_builtin; refine wpList_append_own _ rfl _ _ 26 rfl (w1.heap.size + 1) 59 i0 _ 2 24 Tryd.underlying26 hi hz0 hz1 hz2 rfl (by decide) _ _ _ rfl ((unhide hI).row.alloc _) ⟨wr.heap.size, 0, none⟩ 1 1 [.int .u8 (wd[i].toNat : Int), .string ByteArray.empty] rfl rfl (pair_new _ _ _ _) (pair_one _ _ _) (by unfold maxLen; omega) (by omega) (by have := (unhide hI).lt; simp; omega) ?_; intro v' w9 hown9 hg9 hnil9)
                    have hI9 := hide ((unhide hI).grow _ rfl hg9 hown9)
                    clear hown9 hg9 hnil9
                    go_roundg g2
                    case measure => omega
                    case rel => exact ⟨i + 1, _, by omega, by go_num, rfl, by omega, hI9, hW9, by have := unhide hfl; show _ ≤ _; simp; omega⟩
                  · have hx1 : (K (wd[i].toNat : Int) == 1) = false := by simp [hk1]
                    by_cases hk2 : K (wd[i].toNat : Int) = 2
                    · have hx2 : (K (wd[i].toNat : Int) == 2) = true := by simp [hk2]
                      by_cases hend : i + 1 < wd.size
                      · have hW9 : Hid (words K (ss.drop (k + 1)) (f2 ++ [((wd[i].toNat : Int), wd.extract (i + 1) wd.size)]) = words K ss []) := by
                          rw [← unhide hW, lets_told K _ wd i f2 hend hk2]; exact rfl
                        have harg : (wd.extract (i + 1) wd.size).toList.isEmpty = false := by
                          rw [ByteArray.toList_eq, ext_bs]; simp [bs, drop_at wd (i + 1) hend]
                        clear hW hk1 hk2
                        go_wp2_with (at_builtin; refine wpList_append_own _ rfl _ _ 26 rfl (w1.heap.size + 1) 59 i0 _ 2 24 Tryd.underlying26 hi hz0 hz1 hz2 rfl (by decide) _ _ _ rfl ((unhide hI).row.alloc _) ⟨wr.heap.size, 0, none⟩ 1 1 [.int .u8 (wd[i].toNat : Int), .string (wd.extract (i + 1) wd.size)] rfl rfl (pair_new _ _ _ _) (pair_one _ _ _) (by unfold maxLen; omega) (by omega) (by have := (unhide hI).lt; simp; omega) ?_; intro v' w9 hown9 hg9 hnil9)
                        have hI9 := hide ((unhide hI).grow _ rfl hg9 hown9)
                        clear hown9 hg9 hnil9
                        go_roundg g
                        case measure => omega
                        case rel => exact ⟨k + 1, _, by omega, hI9, hW9, .inr hTB, by have := unhide hfl; show _ ≤ _; simp; omega⟩
                      · have hlast : i + 1 = wd.size := by omega
                        have harg : (wd.extract (i + 1) wd.size).toList.isEmpty = true := by
                          rw [ByteArray.toList_eq, ext_bs]; simp [bs, drop_end wd (i + 1) (by omega)]
                        by_cases hmore : k + 1 < n
                        · have hkn2 : k + 1 < ss.length := by rw [unhide hl]; omega
                          obtain ⟨x2, hx2'⟩ : ∃ x2, x2 = ss[k + 1] := ⟨_, rfl⟩
                          have hcx : wr.cell? ⟨b, off + (k + 1), none⟩ = some (.string x2) := by
                            rw [(unhide hI).bel.cell (p := ⟨b, off + (k + 1), none⟩) hbl, (unhide HCS) (k + 1) hmore, hx2']
                            simp [List.getD, List.getElem?_eq_getElem hkn2]
                          have hW9 : Hid (words K (ss.drop (k + 1 + 1)) (f2 ++ [((wd[i].toNat : Int), x2)]) = words K ss []) := by
                            rw [← unhide hW]
                            rw [show (ss.drop (k + 1)).head? = some x2 from by rw [List.drop_eq_getElem_cons hkn2, hx2']; rfl]
                            rw [lets_next K x2 wd i f2 hlast hk2, after_next hkn2]
                            exact rfl
                          have htt : Hid (f2.length + 1 + tot (ss.drop (k + 1 + 1)) ≤ tot ss) := by
                            have h1 := unhide hfl
                            rw [tot_at hkn2] at h1
                            show _ ≤ _
                            omega
                          have HNX := hide (next_some _ _ b off n cap (k + 1) x2 wr hat hfr hbx hmore (by omega) hcx (by omega) (by omega))
                          clear hW hk1 hk2 hcx hx2' hat hfr hbx
                          go_wp2_with fail
                          refine (unhide HNX).mono ?_
                          rintro e w5 ⟨rfl, hw5⟩
                          have hI5 : Hid (Inv w w5 w.heap.size w1.heap.size (w.heap.size + 1) nn K (some ⟨b, off, none⟩) n cap (k + 1 + 1) u11 f2) := by rw [hw5]; exact (unhide hI).next (k + 1 + 1)
                          clear hw5 HNX hI hlook
                          go_wp2_with (at_builtin; refine wpList_append_own _ rfl _ _ 26 rfl (w1.heap.size + 1) 59 i0 _ 2 24 Tryd.underlying26 hi hz0 hz1 hz2 rfl (by decide) _ _ _ rfl ((unhide hI5).row.alloc _) ⟨w5.heap.size, 0, none⟩ 1 1 [.int .u8 (wd[i].toNat : Int), .string x2] rfl rfl (pair_new _ _ _ _) (pair_one _ _ _) (by unfold maxLen; omega) (by omega) (by have := (unhide hI5).lt; simp; omega) ?_; intro v' w9 hown9 hg9 hnil9)
                          have hI9 := hide ((unhide hI5).grow _ rfl hg9 hown9)
                          clear hown9 hg9 hnil9
                          go_roundg (g - 1)
                          case measure => omega
                          case rel => exact ⟨k + 1 + 1, _, by omega, hI9, hW9, .inr hTB, by have := unhide htt; show _ ≤ _; simp; omega⟩
                        · obtain rfl : n = k + 1 := by omega
                          have hW9 : Hid (words K ss [] = none) := by
                            rw [← unhide hW]
                            rw [List.drop_eq_nil_of_le (show ss.length ≤ k + 1 by rw [unhide hl]; omega)]
                            show after K [] (lets K none _ f2) = none
                            rw [lets_lack K wd i f2 hlast hk2]
                            rfl
                          clear hW hk1 hk2
                          go_wp2_with fail
                          refine (next_end _ _ _ _ _ _ hat hbx).mono ?_
                          rintro e w5 ⟨rfl, rfl⟩
                          go_wp2_with fail
                          try rw [Exit.noGoto_ret]
                          go_ret3
                          exact PaPost.nix (parse_usage (unhide HK) (by rw [unhide hl]; omega) (unhide hW9)) (unhide hI).bel
                    · have hx2 : (K (wd[i].toNat : Int) == 2) = false := by simp [hk2]
                      have hW9 : Hid (words K ss [] = none) := by
                        rw [← unhide hW, lets_no K _ wd i f2 hlt hk1 hk2]; exact rfl
                      clear hW hk1 hk2
                      go_wp2_with fail
                      try rw [Exit.noGoto_ret]
                      go_ret3
                      exact PaPost.nix (parse_usage (unhide HK) (by rw [unhide hl]; omega) (unhide hW9)) (unhide hI).bel
end Go.Proofs.YtamgehfppeknhaaDoor.Pa
