/- KeysFolds returns true, whatever the order and the two lines. -/
import Derived.Test.YtfffhdbicldihabDoorKyAlive
import Derived.Test.YtfffhdbicldihabDoorKyHeld
import Derived.Test.YtfffhdbicldihabDoorKyFacts
import Derived.Deep.DeepCutAuto
import Derived.Deep.CutBlock
import Derived.Deep.RegionHeld3
namespace Go.Proofs.YtfffhdbicldihabDoor.Ky
open Go.RowKit Go.Shelf

attribute [local go_sem] Oper.semAt_some

set_option maxRecDepth 100000 in
set_option maxHeartbeats 600000 in
theorem upper_any (s : ByteArray) (w : World) (hs : s.size ≤ 1073741824) :
    Calls Tryd.prog 10 #[.string s] w fun e w' => e = .returned (.string (Ln.bt (s.data.toList.map up))) ∧ Below w.heap.size w w' := by
  have hcv := run_bytes_of_string w 9 43 5 s Tryd.underlying9 Tryd.underlying43 Tryd.underlying5
  obtain ⟨c, hc⟩ : ∃ c, c = grownCap w s.size 0 5 := ⟨_, rfl⟩
  rw [← hc] at hcv
  have hR0 := hide (Rw.new s w c)
  have hB0 : Hid (Below w.heap.size w (w.drew.alloc (.cells (bytesRow s c) 5 ((bytesRow s c).size, (bytesRow s c).size + 1)))) := ((Below.refl _ _).drew).alloc (Nat.le_refl _) _
  generalize w.drew.alloc (.cells (bytesRow s c) 5 ((bytesRow s c).size, (bytesRow s c).size + 1)) = w1 at *
  clear hc
  go_enter Tryd.func10, Tryd.ntmps10
  go_wp2_with fail
  go_loopw [4] (fun i wr => ∃ k : Nat, k ≤ s.size ∧ i = .int .i64 k ∧ Hid (Rw wr w.heap.size (upTo s.data.toList k)) ∧ Hid (Below w.heap.size w wr)) (fun i _ => s.size - (intOf i).toNat)
  case atStart => exact ⟨0, Nat.zero_le _, rfl, by simpa [upTo] using hR0, hB0⟩
  case round =>
    clear hR0 hB0 hcv
    obtain ⟨k, hk, rfl, hR, hB⟩ := hrel
    by_cases hlt : k < s.size
    · have hlt' : (k : Int) < (s.size : Int) := by omega
      have hll : k < s.data.toList.length := hlt
      have hl2 : k < (upTo s.data.toList k).length := by rw [upTo_len]; exact hll
      have hcell := (unhide hR).cell hl2
      rw [upTo_at _ _ hll, show s.data.toList[k] = s[k] from rfl] at hcell
      have hfz := (unhide hR).frozen hl2
      have hset := hide ((unhide hR).set (i := k) (up s.data.toList[k]))
      rw [upTo_set _ _ hll, show s.data.toList[k] = s[k] from rfl] at hset
      have hsame := hide (upTo_same s.data.toList k hll)
      rw [show s.data.toList[k] = s[k] from rfl] at hsame
      have h8 := s[k].toNat_lt
      generalize s[k] = c at *
      by_cases hL : 97 ≤ c.toNat ∧ c.toNat ≤ 122
      · have hu : (up c).toNat = c.toNat - 32 := by
          have h1 : 97 ≤ c ∧ c ≤ 122 := by rw [UInt8.le_iff_toNat_le, UInt8.le_iff_toNat_le]; exact hL
          unfold up
          rw [if_pos h1, UInt8.toNat_sub_of_le _ _ (by rw [UInt8.le_iff_toNat_le]; show 32 ≤ c.toNat; omega)]; rfl
        have hue : ((up c).toNat : Int) = (c.toNat : Int) - 97 + 65 := by omega
        rw [hue] at hset
        have l1 : (97 : Int) ≤ (c.toNat : Int) := by omega
        have l2 : (c.toNat : Int) ≤ 122 := by omega
        have hb2 : Hid (Below w.heap.size w (wr.setCell ⟨w.heap.size, k, none⟩ (.int .u8 ((c.toNat : Int) - 97 + 65)))) := (unhide hB).setCell (p := ⟨w.heap.size, k, none⟩) (Nat.le_refl _) _
        clear hu hue hsame hR hB hL
        go_wp2_with fail
        go_roundw
        case rel => exact ⟨k + 1, by omega, by go_num, hset, hb2⟩
        case measure => simp [intOf]; omega
      · have hu : up c = c := by
          unfold up
          rw [if_neg (fun h => hL ⟨by have := UInt8.le_iff_toNat_le.1 h.1; exact this, by have := UInt8.le_iff_toNat_le.1 h.2; exact this⟩)]
        rw [unhide hsame hu] at hR
        clear hset hsame hu
        rcases (show ¬ (97 : Int) ≤ (c.toNat : Int) ∨ ((97 : Int) ≤ (c.toNat : Int) ∧ ¬ (c.toNat : Int) ≤ 122) by omega) with l1 | ⟨l1, l2⟩
        · clear hL
          go_wp2_with fail
          go_roundw
          case rel => exact ⟨k + 1, by omega, by go_num, hR, hB⟩
          case measure => simp [intOf]; omega
        · clear hL
          go_wp2_with fail
          go_roundw
          case rel => exact ⟨k + 1, by omega, by go_num, hR, hB⟩
          case measure => simp [intOf]; omega
    · rw [upTo_all _ _ (show s.data.toList.length ≤ k by have : s.data.toList.length = s.size := rfl; omega)] at hR
      have hbk := (unhide hR).back (c := c)
      rw [List.length_map, show s.data.toList.length = s.size from rfl] at hbk
      obtain ⟨R, hR1⟩ : ∃ R, R = Ln.bt (s.data.toList.map up) := ⟨_, rfl⟩
      rw [← hR1] at hbk
      have HR := hide hR1
      clear hR hR1
      go_wp2_with fail
      go_ret
      exact ⟨by rw [← unhide HR]; rfl, unhide hB⟩


theorem sep_ways (c : UInt8) : (¬ (65 ≤ c ∧ c ≤ 90) ∧ ¬ (97 ≤ c ∧ c ≤ 122)) ↔ (¬ ((65 : Int) ≤ (c.toNat : Int) ∧ (c.toNat : Int) ≤ 90) ∧ ¬ ((97 : Int) ≤ (c.toNat : Int) ∧ (c.toNat : Int) ≤ 122)) := by
  have h1 : (65 ≤ c) ↔ (65 : Int) ≤ (c.toNat : Int) := by rw [UInt8.le_iff_toNat_le, show (65 : UInt8).toNat = 65 from rfl]; omega
  have h2 : (c ≤ 90) ↔ (c.toNat : Int) ≤ 90 := by rw [UInt8.le_iff_toNat_le, show (90 : UInt8).toNat = 90 from rfl]; omega
  have h3 : (97 ≤ c) ↔ (97 : Int) ≤ (c.toNat : Int) := by rw [UInt8.le_iff_toNat_le, show (97 : UInt8).toNat = 97 from rfl]; omega
  have h4 : (c ≤ 122) ↔ (c.toNat : Int) ≤ 122 := by rw [UInt8.le_iff_toNat_le, show (122 : UInt8).toNat = 122 from rfl]; omega
  rw [h1, h2, h3, h4]

set_option maxRecDepth 100000 in
set_option maxHeartbeats 1000000 in
theorem keysFolds_any (o : Ord) (a b : ByteArray) (w : World) :
    Calls Tryd.prog 4 #[ov o, .string a, .string b] w fun e w' => e = .returned (.bool true) ∧ Below w.heap.size w w' := by
  have AL : Hid (∀ W, Calls Tryd.prog 7 #[] W fun e w' => e = .returned (.bool true) ∧ Below W.heap.size W w') := alive_any
  have H0 := hide (Hd.new w o)
  by_cases hbig : ¬ ((a.size : Int) ≤ 20000 ∧ (b.size : Int) ≤ 20000 ∧ ¬ ((65 : Int) ≤ (o.sep.toNat : Int) ∧ (o.sep.toNat : Int) ≤ 90) ∧ ¬ ((97 : Int) ≤ (o.sep.toNat : Int) ∧ (o.sep.toNat : Int) ≤ 122))
  · have hw : (20000 : Int) < a.size ∨ ((a.size : Int) ≤ 20000 ∧ (20000 : Int) < b.size) ∨ ((a.size : Int) ≤ 20000 ∧ (b.size : Int) ≤ 20000 ∧ (65 : Int) ≤ (o.sep.toNat : Int) ∧ (o.sep.toNat : Int) ≤ 90) ∨ ((a.size : Int) ≤ 20000 ∧ (b.size : Int) ≤ 20000 ∧ (65 : Int) ≤ (o.sep.toNat : Int) ∧ ¬ (o.sep.toNat : Int) ≤ 90 ∧ (97 : Int) ≤ (o.sep.toNat : Int) ∧ (o.sep.toNat : Int) ≤ 122) := by omega
    clear hbig
    unfold ov
    rcases hw with h1 | ⟨h1, h2⟩ | ⟨h1, h2, h3, h4⟩ | ⟨h1, h2, h3, h4, h5, h6⟩
    all_goals
      go_enter Tryd.func4, Tryd.ntmps4
      go_wp2_with fail
      refine (unhide AL _).mono ?_
      rintro e w1 ⟨rfl, b1⟩
      have H1 := hide ((unhide H0).step b1)
      obtain ⟨d0, d1, d2, d3, d4, d5, d6⟩ := (unhide H1).1.cells
      clear b1 H0
      go_wp2_with fail
      refine (unhide AL _).mono ?_
      rintro e w2 ⟨rfl, b2⟩
      have H2 := hide ((unhide H1).step b2)
      clear b2 H1
      go_wp2_with fail
      go_ret
      exact ⟨rfl, (unhide H2).2⟩
  · obtain ⟨za, zb, hs⟩ : (a.size : Int) ≤ 20000 ∧ (b.size : Int) ≤ 20000 ∧ ¬ ((65 : Int) ≤ (o.sep.toNat : Int) ∧ (o.sep.toNat : Int) ≤ 90) ∧ ¬ ((97 : Int) ≤ (o.sep.toNat : Int) ∧ (o.sep.toNat : Int) ≤ 122) := by omega
    have hf := folds o ((sep_ways o.sep).2 hs) a.data.toList b.data.toList
    have U1 := hide (fun W => upper_any a W (by omega))
    have U2 := hide (fun W => upper_any b W (by omega))
    have C1 := hide (fun W => comp_any { o with fold := true } a b W (by omega) (by omega))
    have zA : (Ln.bt (a.data.toList.map up)).size = a.size := by show (a.data.toList.map up).length = _; rw [List.length_map]; rfl
    have zB : (Ln.bt (b.data.toList.map up)).size = b.size := by show (b.data.toList.map up).length = _; rw [List.length_map]; rfl
    have C2 := hide (fun W => comp_any { o with fold := true } (Ln.bt (a.data.toList.map up)) (Ln.bt (b.data.toList.map up)) W (by omega) (by omega))
    have C3 := hide (fun W => comp_any { o with fold := false } (Ln.bt (a.data.toList.map up)) (Ln.bt (b.data.toList.map up)) W (by omega) (by omega))
    have e1 : (Ln.bt (a.data.toList.map up)).data.toList = upS a.data.toList := rfl
    have e2 : (Ln.bt (b.data.toList.map up)).data.toList = upS b.data.toList := rfl
    rw [e1, e2, ← hf.1] at C2
    rw [e1, e2, ← hf.2] at C3
    unfold ov at C1 C2 C3 ⊢
    simp only at C1 C2 C3
    generalize compare { o with fold := true } a.data.toList b.data.toList = x at *
    generalize Ln.bt (a.data.toList.map up) = A at *
    generalize Ln.bt (b.data.toList.map up) = B at *
    clear e1 e2 hf zA zB hbig
    have KU1 := hide (H7.call (w := w) (o := { o with fold := true }) (unhide U1))
    have KU2 := hide (H7.call (w := w) (o := { o with fold := true }) (unhide U2))
    have KC2 := hide (H7.call (w := w) (o := { o with fold := true }) (unhide C2))
    have LU1 := hide (H7.call (w := w) (o := { o with fold := false }) (unhide U1))
    have LU2 := hide (H7.call (w := w) (o := { o with fold := false }) (unhide U2))
    have LC3 := hide (H7.call (w := w) (o := { o with fold := false }) (unhide C3))
    unfold H7 at KU1 KU2 KC2 LU1 LU2 LC3
    simp only at KU1 KU2 KC2 LU1 LU2 LC3
    clear U1 U2 C2 C3
    go_enter Tryd.func4, Tryd.ntmps4
    go_upto_region 1 with fail
    go_cut [40] (fun v wx => v = .bool false ∧ Hid (Hd w o wx))
    case first =>
      clear KU1 KU2 KC2 LU1 LU2 LC3 C1
      rcases (show ¬ (65 : Int) ≤ (o.sep.toNat : Int) ∨ ((65 : Int) ≤ (o.sep.toNat : Int) ∧ ¬ (o.sep.toNat : Int) ≤ 90 ∧ ¬ (97 : Int) ≤ (o.sep.toNat : Int)) ∨ ((65 : Int) ≤ (o.sep.toNat : Int) ∧ ¬ (o.sep.toNat : Int) ≤ 90 ∧ (97 : Int) ≤ (o.sep.toNat : Int) ∧ ¬ (o.sep.toNat : Int) ≤ 122) by omega) with h1 | ⟨h1, h2, h3⟩ | ⟨h1, h2, h3, h4⟩
      · have h3 : ¬ (97 : Int) ≤ (o.sep.toNat : Int) := by omega
        clear hs
        go_wp2_with fail
        refine (unhide AL _).mono ?_
        rintro e w1 ⟨rfl, b1⟩
        have H1 := hide ((unhide H0).step b1)
        obtain ⟨d0, d1, d2, d3, d4, d5, d6⟩ := (unhide H1).1.cells
        clear b1 H0
        go_wp2_with fail
        go_meet
        exact ⟨by simp; omega, H1⟩
      all_goals
        clear hs
        go_wp2_with fail
        refine (unhide AL _).mono ?_
        rintro e w1 ⟨rfl, b1⟩
        have H1 := hide ((unhide H0).step b1)
        obtain ⟨d0, d1, d2, d3, d4, d5, d6⟩ := (unhide H1).1.cells
        clear b1 H0
        go_wp2_with fail
        go_meet
        exact ⟨by simp; omega, H1⟩
    case rest =>
      obtain ⟨rfl, H1⟩ := hcut
      clear AL H0 hs
      have H2 := hide ((unhide H1).fold true)
      obtain ⟨d0, d1, d2, d3, d4, d5, d6⟩ := (unhide H1).1.cells
      have fz := (unhide H1).1.frozen 1
      clear H1
      go_wp2_with fail
      refine (unhide C1 _).mono ?_
      rintro e w2 ⟨rfl, b2⟩
      have H3 := hide ((unhide H2).step b2)
      clear b2 H2 C1 d0 d1 d2 d3 d4 d5 d6 fz
      have hS := H7.of (unhide H3)
      have hSd := H7.of (unhide H3).drew
      unfold H7 at hS hSd
      simp only at hS hSd
      clear H3
      go_upto_region 5 with fail
      go_region_held3 (fun w' => w'.cell? ⟨w.heap.size, 0, none⟩ = some (.bool o.num) ∧ w'.cell? ⟨w.heap.size, 1, none⟩ = some (.bool true) ∧ w'.cell? ⟨w.heap.size, 2, none⟩ = some (.bool o.bls) ∧ w'.cell? ⟨w.heap.size, 3, none⟩ = some (.bool o.rev) ∧ w'.cell? ⟨w.heap.size, 4, none⟩ = some (.int .i64 o.fr) ∧ w'.cell? ⟨w.heap.size, 5, none⟩ = some (.int .i64 o.«to») ∧ w'.cell? ⟨w.heap.size, 6, none⟩ = some (.int .u8 (o.sep.toNat : Int)) ∧ Hid (Hd w { o with fold := true } w')) (first | assumption | go_keep)
        (first | (with_reducible refine (unhide KU1 _ (by assumption)).mono ?_; rintro e w' ⟨rfl, hS1⟩) | (with_reducible refine (unhide KU2 _ (by assumption)).mono ?_; rintro e w' ⟨rfl, hS2⟩) | (with_reducible refine (unhide KC2 _ (by assumption)).mono ?_; rintro e w' ⟨rfl, hS3⟩))
      clear KU1 KU2 KC2
      have H4 := hide (unhide hS3.2.2.2.2.2.2.2)
      clear hS hSd hS1 hS2 hS3
      obtain ⟨d0, d1, d2, d3, d4, d5, d6⟩ := (unhide H4).1.cells
      have fz := (unhide H4).1.frozen 1
      have H5 := (unhide H4).fold false
      have hS := H7.of H5
      have hSd := H7.of H5.drew
      unfold H7 at hS hSd
      simp only at hS hSd
      clear H4 H5
      go_upto_region 7 with fail
      clear d0 d1 d2 d3 d4 d5 d6 fz
      go_region_held3 (fun w' => w'.cell? ⟨w.heap.size, 0, none⟩ = some (.bool o.num) ∧ w'.cell? ⟨w.heap.size, 1, none⟩ = some (.bool false) ∧ w'.cell? ⟨w.heap.size, 2, none⟩ = some (.bool o.bls) ∧ w'.cell? ⟨w.heap.size, 3, none⟩ = some (.bool o.rev) ∧ w'.cell? ⟨w.heap.size, 4, none⟩ = some (.int .i64 o.fr) ∧ w'.cell? ⟨w.heap.size, 5, none⟩ = some (.int .i64 o.«to») ∧ w'.cell? ⟨w.heap.size, 6, none⟩ = some (.int .u8 (o.sep.toNat : Int)) ∧ Hid (Hd w { o with fold := false } w')) (first | assumption | go_keep)
        (first | (with_reducible refine (unhide LU1 _ (by assumption)).mono ?_; rintro e w' ⟨rfl, hS1⟩) | (with_reducible refine (unhide LU2 _ (by assumption)).mono ?_; rintro e w' ⟨rfl, hS2⟩) | (with_reducible refine (unhide LC3 _ (by assumption)).mono ?_; rintro e w' ⟨rfl, hS3⟩))
      go_wp2_with fail
      go_ret
      exact ⟨by first | rfl | simp, (unhide hS3.2.2.2.2.2.2.2).2⟩
end Go.Proofs.YtfffhdbicldihabDoor.Ky
