/- What the document's Text answers. -/
import Derived.Test.YtijoemamnkhhnaaDoorLsRefs2
namespace Go.Proofs.YtijoemamnkhhnaaDoor.Ls
open Go.RowKit Go.Shelf

theorem s44 : ({ data := #[44] } : ByteArray) = ⟨([44] : List UInt8).toArray⟩ := rfl
theorem s45 : ({ data := #[45] } : ByteArray) = ⟨([45] : List UInt8).toArray⟩ := rfl
theorem tell1_eq {x y : Int} (h : y = x) : tell1 (x, y) = dec x := by unfold tell1; rw [if_pos h]
theorem tell1_zero {x y : Int} (h1 : 1 ≤ x) (h : y = 0) : tell1 (x, y) = dec x ++ [45] := by unfold tell1; rw [if_neg (by show ¬ y = x; omega), if_pos h]
theorem tell1_gt {x y : Int} (h1 : 1 ≤ x) (h : x < y) : tell1 (x, y) = dec x ++ 45 :: dec y := by unfold tell1; rw [if_neg (by show ¬ y = x; omega), if_neg (by show ¬ y = 0; omega)]
theorem ret_pair {a b : ByteArray} {n : Int} (h : a = b) : Ending.returned (.tuple #[.string a, .int .i64 n]) = .returned (.tuple #[.string b, .int .i64 n]) := by rw [h]
def AllOk (rs : List R) (k : Nat) : Prop := (rs.take k).all okR = true
theorem okR_no {x y : Int} (h : okR (x, y) = false) : x < 1 ∨ 2147483647 < x ∨ 2147483647 < y ∨ (y ≠ 0 ∧ y < x) := by
  simp [okR, isPl] at h
  omega
theorem okR_yes {x y : Int} (h : okR (x, y) = true) : 1 ≤ x ∧ x ≤ 2147483647 ∧ y ≤ 2147483647 ∧ (y = 0 ∨ x ≤ y) := by
  simp [okR, isPl] at h
  omega

set_option maxHeartbeats 1000000 in
set_option maxRecDepth 100000 in
theorem rtext_some (b off len cap : Nat) (rs : List R) (w : World) (h : ∀ i, i < len → w.cell? ⟨b, off + i * 2, none⟩ = some (.int .i64 (rs.getD i rz).1) ∧ w.cell? ⟨b, off + i * 2 + 1, none⟩ = some (.int .i64 (rs.getD i rz).2)) (hb : b < w.heap.size) (hl : rs.length = len) (hlen : len ≤ 4611686018427387904) (hp : 0 < len) :
    Calls Tryd.prog 11 #[.slice (some ⟨b, off, none⟩) len cap] w fun e w' => e = .returned (textV rs) ∧ Below w.heap.size w w' := by
  have HC := hide h
  have HL := hide hl
  have hq : ((len : Int) == 0) = false := by simp; omega
  clear h hl
  go_enter Tryd.func11, Tryd.ntmps11
  go_wp2_with fail
  go_loopw [4] (fun i wr => ∃ k : Nat, k ≤ len ∧ i = .int .i64 k ∧ Hid (AllOk rs k) ∧ Below w.heap.size w wr) (fun i _ => len - (intOf i).toNat)
  case atStart => exact ⟨0, Nat.zero_le _, rfl, rfl, Below.refl _ _⟩
  case round =>
    obtain ⟨k, hk, rfl, hr, hnx⟩ := hrel
    have hsz := hnx.size
    by_cases hlt : k < len
    · have hlt' : (k : Int) < (len : Int) := by omega
      have hc1 := (hnx.cell (p := ⟨b, off + k * 2, none⟩) hb).trans (unhide HC k hlt).1
      have hc2 := (hnx.cell (p := ⟨b, off + k * 2 + 1, none⟩) hb).trans (unhide HC k hlt).2
      have hkl : k < rs.length := by rw [unhide HL]; exact hlt
      have hd := hide (take_at rs k hkl)
      have hm : Hid (rs.getD k rz ∈ rs) := by rw [List.getD, List.getElem?_eq_getElem hkl]; exact List.getElem_mem hkl
      obtain ⟨r, hx⟩ : ∃ r, r = rs.getD k rz := ⟨_, rfl⟩
      rw [← hx] at hc1 hc2 hd hm
      clear hx hkl
      obtain ⟨x, y⟩ := r
      simp only at hc1 hc2
      cases h0 : okR (x, y)
      · have hf : Hid (Ending.returned (.tuple #[.string { data := #[] }, .int .i64 1]) = .returned (textV rs)) := textV_arg (by
          unfold may
          rw [List.all_eq_false.2 ⟨(x, y), unhide hm, by simp [h0]⟩]; exact rfl)
        have hno := okR_no h0
        clear hd hm hr h0
        by_cases g1 : x < 1
        · clear hno
          go_wp2_with fail
          go_ret2
          exact ⟨unhide hf, by repeat (first | exact hnx | apply Below.setCell | apply Below.alloc | simpa using hsz)⟩
        · by_cases g2 : 2147483647 < x
          · clear hno
            go_wp2_with fail
            go_ret2
            exact ⟨unhide hf, by repeat (first | exact hnx | apply Below.setCell | apply Below.alloc | simpa using hsz)⟩
          · by_cases g3 : 2147483647 < y
            · clear hno
              go_wp2_with fail
              go_ret2
              exact ⟨unhide hf, by repeat (first | exact hnx | apply Below.setCell | apply Below.alloc | simpa using hsz)⟩
            · obtain ⟨g4, g5⟩ : y ≠ 0 ∧ y < x := by omega
              have g4' : (y != 0) = true := by simp [g4]
              clear hno g4
              go_wp2_with fail
              go_ret2
              exact ⟨unhide hf, by repeat (first | exact hnx | apply Below.setCell | apply Below.alloc | simpa using hsz)⟩
      · have hf : Hid (AllOk rs (k + 1)) := by
          have h1 := unhide hr
          unfold AllOk at h1
          show AllOk rs (k + 1)
          unfold AllOk
          rw [unhide hd, List.all_append, h1]; simp [h0]
        obtain ⟨g1, g2, g3, g4⟩ := okR_yes h0
        clear hd hm hr h0
        by_cases g5 : y = 0
        · have g5' : (y != 0) = false := by simp [g5]
          clear g5 g4
          go_wp2_with fail
          go_roundw
          case rel => exact ⟨k + 1, by omega, by go_num, hf, by repeat (first | exact hnx | apply Below.setCell | apply Below.alloc | simpa using hsz)⟩
          case measure => simp [intOf]; omega
        · have g5' : (y != 0) = true := by simp [g5]
          have g6 : ¬ y < x := by omega
          clear g5 g4
          go_wp2_with fail
          go_roundw
          case rel => exact ⟨k + 1, by omega, by go_num, hf, by repeat (first | exact hnx | apply Below.setCell | apply Below.alloc | simpa using hsz)⟩
          case measure => simp [intOf]; omega
    · have HM : Hid (may rs = true) := by
        have h1 := unhide hr
        unfold AllOk at h1
        rw [List.take_of_length_le (by rw [unhide HL]; omega)] at h1
        unfold may
        rw [h1]
        have := unhide HL
        cases rs with
        | nil => simp at this; omega
        | cons q l => exact rfl
      have HA : Hid (∀ r ∈ rs, okR r = true) := fun r hr => List.all_eq_true.1 (by have := unhide HM; unfold may at this; simp only [Bool.and_eq_true] at this; exact this.1) r hr
      have HB := hide hnx
      clear hr hnx
      have hlt' : ¬ (k : Int) < (len : Int) := by omega
      go_wp2_with fail
      clear hk hlt hlt'
      obtain ⟨w1, hw1⟩ : ∃ w1, w1 = wr := ⟨_, rfl⟩
      rw [← hw1] at HB hsz ⊢
      clear hw1
      go_loopw [6, 7] (fun v i wy => ∃ (k : Nat) (s : ByteArray), k ≤ len ∧ i = .int .i64 k ∧ v = .string s ∧ s.size ≤ 4096 ∧ Hid (s = ⟨(tell (rs.take k)).toArray⟩) ∧ Hid (Below w.heap.size w wy)) (fun _ i _ => len - (intOf i).toNat)
      case atStart => exact ⟨0, _, Nat.zero_le _, rfl, rfl, by decide, rfl, HB⟩
      case round =>
        obtain ⟨k, s, hk, rfl, rfl, hs, hS, hB⟩ := hrel
        by_cases hlt : k < len
        · have hlt' : (k : Int) < (len : Int) := by omega
          have hkl : k < rs.length := by rw [unhide HL]; exact hlt
          have hc1 := ((unhide hB).cell (p := ⟨b, off + k * 2, none⟩) hb).trans (unhide HC k hlt).1
          have hc2 := ((unhide hB).cell (p := ⟨b, off + k * 2 + 1, none⟩) hb).trans (unhide HC k hlt).2
          have hd := hide (take_at rs k hkl)
          have hok : okR (rs.getD k rz) = true := unhide HA _ (by rw [List.getD, List.getElem?_eq_getElem hkl]; exact List.getElem_mem hkl)
          have htk : Hid ((rs.take k).length = k) := by show _ = _; simp; omega
          obtain ⟨r, hx⟩ : ∃ r, r = rs.getD k rz := ⟨_, rfl⟩
          rw [← hx] at hc1 hc2 hd hok
          clear hx hkl
          obtain ⟨x, y⟩ := r
          simp only at hc1 hc2
          obtain ⟨g1, g2, g3, g4⟩ := okR_yes hok
          obtain ⟨nx, rfl⟩ : ∃ nx : Nat, x = nx := ⟨x.toNat, by omega⟩
          obtain ⟨ny, rfl⟩ : ∃ ny : Nat, y = ny := ⟨y.toNat, by omega⟩
          obtain ⟨dx, hdx, hsx, DX⟩ := rdigits_any nx (by omega)
          obtain ⟨dy, hdy, hsy, DY⟩ := rdigits_any ny (by omega)
          have HX : Hid (dx = ⟨(dec (nx : Int)).toArray⟩) := by rw [dec_nat _ (by omega)]; exact hdx
          have HY : Hid (dy = ⟨(dec (ny : Int)).toArray⟩) := by rw [dec_nat _ (by omega)]; exact hdy
          clear hdx hdy hok
          have HLEN : Hid (∀ t : ByteArray, t = ⟨(tell (rs.take (k + 1))).toArray⟩ → 4096 < t.size → 4096 < (tell rs).length) := fun t e h => by
            have h1 := tell_take_le rs (k + 1)
            have h2 : t.size = (tell (rs.take (k + 1))).length := by rw [e]; rfl
            omega
          by_cases hk0 : k = 0
          · have hk0' : ¬ (0 : Int) < (k : Int) := by omega
            by_cases hyx : (ny : Int) = (nx : Int)
            · have e1 : ((ny : Int) != (nx : Int)) = false := by simp; omega
              have e2 : ¬ (nx : Int) < (ny : Int) := by omega
              clear g4
              have hT : Hid (s ++ dx = ⟨(tell (rs.take (k + 1))).toArray⟩) := by
                show _ = _
                rw [unhide hd, unhide hS, show rs.take k = [] from List.eq_nil_of_length_eq_zero (by rw [unhide htk]; omega), List.nil_append, tell_one, show tell [] = [] from rfl]
                rw [unhide HX]
                simp only [cat_bs]
                rw [tell1_eq hyx]
                simp
              have hz : (s ++ dx).size = s.size + dx.size := by simp only [ByteArray.size_append]; try rfl
              by_cases h4 : 4096 < ((s.size + dx.size : Nat) : Int)
              · have hlim := hide (textV_limit (rs := rs) (unhide HM) (unhide HLEN _ (unhide hT) (by rw [hz]; omega)))
                clear hz HLEN hd hS htk hk0 hyx hT
                go_wp2_with fail
                refine (unhide DX _).mono ?_
                rintro e w2 ⟨rfl, q2, rfl⟩
                go_wp2_with fail
                go_quiet (fail)
                go_wp2_with fail
                go_quiet (fail)
                go_wp2_with fail
                go_ret2
                exact ⟨unhide hlim, by repeat (first | exact unhide hB | apply below_drewN)⟩
              · have hz2 : (s ++ dx).size ≤ 4096 := by rw [hz]; omega
                have HZ := hide hz2
                clear hz HLEN hd hS htk hk0 hyx hz2
                go_wp2_with fail
                refine (unhide DX _).mono ?_
                rintro e w2 ⟨rfl, q2, rfl⟩
                go_wp2_with fail
                go_quiet (fail)
                go_wp2_with fail
                go_quiet (fail)
                go_wp2_with fail
                go_roundw
                case rel => exact ⟨k + 1, _, by omega, by go_num, rfl, unhide HZ, hT, by repeat (first | exact unhide hB | apply below_drewN)⟩
                case measure => simp [intOf]; omega
            · have e1 : ((ny : Int) != (nx : Int)) = true := by simp; omega
              have hy1 : ¬ (ny : Int) = (nx : Int) := hyx
              clear hyx
              by_cases hy0 : (ny : Int) = 0
              · have e2 : ¬ (nx : Int) < (ny : Int) := by omega
                clear g4
                have hT : Hid (s ++ dx ++ { data := #[45] } = ⟨(tell (rs.take (k + 1))).toArray⟩) := by
                  show _ = _
                  rw [unhide hd, unhide hS, show rs.take k = [] from List.eq_nil_of_length_eq_zero (by rw [unhide htk]; omega), List.nil_append, tell_one, show tell [] = [] from rfl]
                  rw [unhide HX]
                  simp only [cat_bs]
                  rw [tell1_zero (by omega) hy0]
                  simp
                have hz : (s ++ dx ++ { data := #[45] }).size = s.size + dx.size + 1 := by simp only [ByteArray.size_append]; try rfl
                by_cases h4 : 4096 < ((s.size + dx.size + 1 : Nat) : Int)
                · have hlim := hide (textV_limit (rs := rs) (unhide HM) (unhide HLEN _ (unhide hT) (by rw [hz]; omega)))
                  clear hz HLEN hd hS htk hk0 hy1 hy0 hT
                  go_wp2_with fail
                  refine (unhide DX _).mono ?_
                  rintro e w2 ⟨rfl, q2, rfl⟩
                  go_wp2_with fail
                  go_quiet (fail)
                  go_wp2_with fail
                  go_quiet (fail)
                  go_wp2_with fail
                  go_ret2
                  exact ⟨unhide hlim, by repeat (first | exact unhide hB | apply below_drewN)⟩
                · have hz2 : (s ++ dx ++ { data := #[45] }).size ≤ 4096 := by rw [hz]; omega
                  have HZ := hide hz2
                  clear hz HLEN hd hS htk hk0 hy1 hy0 hz2
                  go_wp2_with fail
                  refine (unhide DX _).mono ?_
                  rintro e w2 ⟨rfl, q2, rfl⟩
                  go_wp2_with fail
                  go_quiet (fail)
                  go_wp2_with fail
                  go_quiet (fail)
                  go_wp2_with fail
                  go_roundw
                  case rel => exact ⟨k + 1, _, by omega, by go_num, rfl, unhide HZ, hT, by repeat (first | exact unhide hB | apply below_drewN)⟩
                  case measure => simp [intOf]; omega
              · have e2 : (nx : Int) < (ny : Int) := by omega
                clear g4
                have hT : Hid (s ++ dx ++ { data := #[45] } ++ dy = ⟨(tell (rs.take (k + 1))).toArray⟩) := by
                  show _ = _
                  rw [unhide hd, unhide hS, show rs.take k = [] from List.eq_nil_of_length_eq_zero (by rw [unhide htk]; omega), List.nil_append, tell_one, show tell [] = [] from rfl]
                  rw [unhide HX, unhide HY]
                  simp only [cat_bs]
                  rw [tell1_gt (by omega) (by omega)]
                  simp
                have hz : (s ++ dx ++ { data := #[45] } ++ dy).size = s.size + dx.size + 1 + dy.size := by simp only [ByteArray.size_append]; try rfl
                by_cases h4 : 4096 < ((s.size + dx.size + 1 + dy.size : Nat) : Int)
                · have hlim := hide (textV_limit (rs := rs) (unhide HM) (unhide HLEN _ (unhide hT) (by rw [hz]; omega)))
                  clear hz HLEN hd hS htk hk0 hy1 hy0 hT
                  go_wp2_with fail
                  refine (unhide DX _).mono ?_
                  rintro e w2 ⟨rfl, q2, rfl⟩
                  go_wp2_with fail
                  go_quiet (fail)
                  go_wp2_with fail
                  go_quiet (fail)
                  go_wp2_with fail
                  refine (unhide DY _).mono ?_
                  rintro e w3 ⟨rfl, q3, rfl⟩
                  go_wp2_with fail
                  go_ret2
                  exact ⟨unhide hlim, by repeat (first | exact unhide hB | apply below_drewN)⟩
                · have hz2 : (s ++ dx ++ { data := #[45] } ++ dy).size ≤ 4096 := by rw [hz]; omega
                  have HZ := hide hz2
                  clear hz HLEN hd hS htk hk0 hy1 hy0 hz2
                  go_wp2_with fail
                  refine (unhide DX _).mono ?_
                  rintro e w2 ⟨rfl, q2, rfl⟩
                  go_wp2_with fail
                  go_quiet (fail)
                  go_wp2_with fail
                  go_quiet (fail)
                  go_wp2_with fail
                  refine (unhide DY _).mono ?_
                  rintro e w3 ⟨rfl, q3, rfl⟩
                  go_wp2_with fail
                  go_roundw
                  case rel => exact ⟨k + 1, _, by omega, by go_num, rfl, unhide HZ, hT, by repeat (first | exact unhide hB | apply below_drewN)⟩
                  case measure => simp [intOf]; omega
          · have hk0' : (0 : Int) < (k : Int) := by omega
            by_cases hyx : (ny : Int) = (nx : Int)
            · have e1 : ((ny : Int) != (nx : Int)) = false := by simp; omega
              have e2 : ¬ (nx : Int) < (ny : Int) := by omega
              clear g4
              have hT : Hid ((s ++ { data := #[44] }) ++ dx = ⟨(tell (rs.take (k + 1))).toArray⟩) := by
                show _ = _
                rw [unhide hd, unhide hS, tell_snoc _ _ (by intro e; have := unhide htk; rw [e] at this; simp at this; omega)]
                rw [unhide HX]
                simp only [cat_bs]
                rw [tell1_eq hyx]
                simp
              have hz : ((s ++ { data := #[44] }) ++ dx).size = s.size + 1 + dx.size := by simp only [ByteArray.size_append]; try rfl
              by_cases h4 : 4096 < ((s.size + 1 + dx.size : Nat) : Int)
              · have hlim := hide (textV_limit (rs := rs) (unhide HM) (unhide HLEN _ (unhide hT) (by rw [hz]; omega)))
                clear hz HLEN hd hS htk hk0 hyx hT
                go_wp2_with fail
                refine (unhide DX _).mono ?_
                rintro e w2 ⟨rfl, q2, rfl⟩
                go_wp2_with fail
                go_quiet (fail)
                go_wp2_with fail
                go_quiet (fail)
                go_wp2_with fail
                go_ret2
                exact ⟨unhide hlim, by repeat (first | exact unhide hB | apply below_drewN)⟩
              · have hz2 : ((s ++ { data := #[44] }) ++ dx).size ≤ 4096 := by rw [hz]; omega
                have HZ := hide hz2
                clear hz HLEN hd hS htk hk0 hyx hz2
                go_wp2_with fail
                refine (unhide DX _).mono ?_
                rintro e w2 ⟨rfl, q2, rfl⟩
                go_wp2_with fail
                go_quiet (fail)
                go_wp2_with fail
                go_quiet (fail)
                go_wp2_with fail
                go_roundw
                case rel => exact ⟨k + 1, _, by omega, by go_num, rfl, unhide HZ, hT, by repeat (first | exact unhide hB | apply below_drewN)⟩
                case measure => simp [intOf]; omega
            · have e1 : ((ny : Int) != (nx : Int)) = true := by simp; omega
              have hy1 : ¬ (ny : Int) = (nx : Int) := hyx
              clear hyx
              by_cases hy0 : (ny : Int) = 0
              · have e2 : ¬ (nx : Int) < (ny : Int) := by omega
                clear g4
                have hT : Hid ((s ++ { data := #[44] }) ++ dx ++ { data := #[45] } = ⟨(tell (rs.take (k + 1))).toArray⟩) := by
                  show _ = _
                  rw [unhide hd, unhide hS, tell_snoc _ _ (by intro e; have := unhide htk; rw [e] at this; simp at this; omega)]
                  rw [unhide HX]
                  simp only [cat_bs]
                  rw [tell1_zero (by omega) hy0]
                  simp
                have hz : ((s ++ { data := #[44] }) ++ dx ++ { data := #[45] }).size = s.size + 1 + dx.size + 1 := by simp only [ByteArray.size_append]; try rfl
                by_cases h4 : 4096 < ((s.size + 1 + dx.size + 1 : Nat) : Int)
                · have hlim := hide (textV_limit (rs := rs) (unhide HM) (unhide HLEN _ (unhide hT) (by rw [hz]; omega)))
                  clear hz HLEN hd hS htk hk0 hy1 hy0 hT
                  go_wp2_with fail
                  refine (unhide DX _).mono ?_
                  rintro e w2 ⟨rfl, q2, rfl⟩
                  go_wp2_with fail
                  go_quiet (fail)
                  go_wp2_with fail
                  go_quiet (fail)
                  go_wp2_with fail
                  go_ret2
                  exact ⟨unhide hlim, by repeat (first | exact unhide hB | apply below_drewN)⟩
                · have hz2 : ((s ++ { data := #[44] }) ++ dx ++ { data := #[45] }).size ≤ 4096 := by rw [hz]; omega
                  have HZ := hide hz2
                  clear hz HLEN hd hS htk hk0 hy1 hy0 hz2
                  go_wp2_with fail
                  refine (unhide DX _).mono ?_
                  rintro e w2 ⟨rfl, q2, rfl⟩
                  go_wp2_with fail
                  go_quiet (fail)
                  go_wp2_with fail
                  go_quiet (fail)
                  go_wp2_with fail
                  go_roundw
                  case rel => exact ⟨k + 1, _, by omega, by go_num, rfl, unhide HZ, hT, by repeat (first | exact unhide hB | apply below_drewN)⟩
                  case measure => simp [intOf]; omega
              · have e2 : (nx : Int) < (ny : Int) := by omega
                clear g4
                have hT : Hid ((s ++ { data := #[44] }) ++ dx ++ { data := #[45] } ++ dy = ⟨(tell (rs.take (k + 1))).toArray⟩) := by
                  show _ = _
                  rw [unhide hd, unhide hS, tell_snoc _ _ (by intro e; have := unhide htk; rw [e] at this; simp at this; omega)]
                  rw [unhide HX, unhide HY]
                  simp only [cat_bs]
                  rw [tell1_gt (by omega) (by omega)]
                  simp
                have hz : ((s ++ { data := #[44] }) ++ dx ++ { data := #[45] } ++ dy).size = s.size + 1 + dx.size + 1 + dy.size := by simp only [ByteArray.size_append]; try rfl
                by_cases h4 : 4096 < ((s.size + 1 + dx.size + 1 + dy.size : Nat) : Int)
                · have hlim := hide (textV_limit (rs := rs) (unhide HM) (unhide HLEN _ (unhide hT) (by rw [hz]; omega)))
                  clear hz HLEN hd hS htk hk0 hy1 hy0 hT
                  go_wp2_with fail
                  refine (unhide DX _).mono ?_
                  rintro e w2 ⟨rfl, q2, rfl⟩
                  go_wp2_with fail
                  go_quiet (fail)
                  go_wp2_with fail
                  go_quiet (fail)
                  go_wp2_with fail
                  refine (unhide DY _).mono ?_
                  rintro e w3 ⟨rfl, q3, rfl⟩
                  go_wp2_with fail
                  go_ret2
                  exact ⟨unhide hlim, by repeat (first | exact unhide hB | apply below_drewN)⟩
                · have hz2 : ((s ++ { data := #[44] }) ++ dx ++ { data := #[45] } ++ dy).size ≤ 4096 := by rw [hz]; omega
                  have HZ := hide hz2
                  clear hz HLEN hd hS htk hk0 hy1 hy0 hz2
                  go_wp2_with fail
                  refine (unhide DX _).mono ?_
                  rintro e w2 ⟨rfl, q2, rfl⟩
                  go_wp2_with fail
                  go_quiet (fail)
                  go_wp2_with fail
                  go_quiet (fail)
                  go_wp2_with fail
                  refine (unhide DY _).mono ?_
                  rintro e w3 ⟨rfl, q3, rfl⟩
                  go_wp2_with fail
                  go_roundw
                  case rel => exact ⟨k + 1, _, by omega, by go_num, rfl, unhide HZ, hT, by repeat (first | exact unhide hB | apply below_drewN)⟩
                  case measure => simp [intOf]; omega
        · have e : rs.take k = rs := List.take_of_length_le (by rw [unhide HL]; omega)
          rw [e] at hS
          have hok := hide (textV_ok (rs := rs) (unhide HM) (by have := unhide hS; have h2 : s.size = (tell rs).length := by rw [this]; rfl
                                                                omega))
          have HS := hide (unhide hS)
          clear hS e
          go_wp2_with fail
          go_ret2
          exact ⟨by rw [show s = _ from unhide HS]; exact unhide hok, unhide hB⟩
end Go.Proofs.YtijoemamnkhhnaaDoor.Ls
