/- The law ModesSigns: walked. -/
import Derived.Test.YtijknodbaddelaaDoorMoSignsP
namespace Go.Proofs.YtijknodbaddelaaDoor.Mo
open Go.RowKit Go.Shelf

theorem slice_ugo {k : IntKind} (n : Nat) (hn : n < 3) (W : World) :
    Sem.run Tryd.prog (Instr.slice 9 (.string { data := #[117, 103, 111] }) (some (.int k (n : Int))) (some (.int k ((n : Int) + 1))) none) W = .ok (.string ⟨#[ltr n]⟩) W := by
  rw [run_slice_string W 9 { data := #[117, 103, 111] } k k n (n + 1) Tryd.underlying9 (by omega) (by omega) (by show (n : Int) + 1 ≤ 3; omega)]
  congr 2
  have : n = 0 ∨ n = 1 ∨ n = 2 := by omega
  rcases this with rfl | rfl | rfl <;> rfl
theorem bs_app (a b : ByteArray) : bs (a ++ b) = bs a ++ bs b := by simp [bs]
theorem ba_size (a b : ByteArray) : (a ++ b).size = a.size + b.size := by rw [← bs_len, bs_app, List.length_append]; rfl
theorem z44 : ({ data := #[44] } : ByteArray).size = 1 := rfl
theorem z61 : ({ data := #[61] } : ByteArray).size = 1 := rfl
theorem one_back (W : World) (c : UInt8) : (convert 32 9 (.slice (some ⟨W.heap.size, 0, none⟩) 1 1)).run Tryd.prog (W.alloc (.cells #[.int .u8 (c.toNat : Int)] 5)) = .ok (.string ⟨#[c]⟩) (W.alloc (.cells #[.int .u8 (c.toNat : Int)] 5)) := by
  have := run_convert_bytes_back (P := Tryd.prog) (W.alloc (.cells #[.int .u8 (c.toNat : Int)] 5)) 32 9 5 ⟨W.heap.size, 0, none⟩ 1 [c] Tryd.underlying32 Tryd.underlying5 Tryd.underlying9 (fun j hj => by
    have hj' : j = 0 := by simpa using hj
    subst hj'
    rw [add_none, cell_of_row _ _ _ _ _ _ (heap_alloc_new W _)]
    rfl)
  exact this
theorem sgP_on {mode : Int} {j : Nat} (h : onP mode j = true) : sgP mode j = signP j := by
  unfold sgP onP at *
  rw [if_neg (by simp at h; omega)]
theorem sgP_off {mode : Int} {j : Nat} (h : onP mode j = false) : sgP mode j = 45 := by
  unfold sgP onP at *
  rw [if_pos (by simp at h; omega)]
theorem text_at (mode : Int) (S : ByteArray) (hS : bs S = textP 2 mode) (j : Nat) (hj : j < 9) : ∃ h : 1 + j < S.size, S[1 + j] = sgP mode j := by
  have hl : S.size = 10 := by rw [← bs_len, hS]; simp [textP]
  refine ⟨by omega, ?_⟩
  have h1 : (bs S)[1 + j]? = some (S[1 + j]'(by omega)) := by
    rw [List.getElem?_eq_getElem (by rw [bs_len]; omega)]; rfl
  have h2 : (bs S)[1 + j]? = some (sgP mode j) := by
    rw [hS]; unfold textP
    rw [Nat.add_comm 1 j, List.getElem?_cons_succ]
    simp [hj]
  rw [h2] at h1
  exact (Option.some.inj h1).symm
set_option maxHeartbeats 2000000 in
set_option maxRecDepth 100000 in
theorem signs_walk (mode x mask : Int) (dir : Bool) (w : World) :
    Calls Tryd.prog 4 #[.int .i64 mode, .agg #[.int .i64 x, .int .i64 mask, .bool dir]] w fun e w' => e = .returned (.bool true) ∧ Below w.heap.size w w' := by
  obtain ⟨W0, HW0⟩ : ∃ W, Hid (W = w.alloc (.cells #[.int .i64 x, .int .i64 mask, .bool dir] 23)) := ⟨_, rfl⟩
  have HB0 : Hid (Below w.heap.size w W0) := by rw [unhide HW0]; exact (Below.refl _ _).alloc (Nat.le_refl _) _
  have hz0 : w.heap.size < W0.heap.size := by rw [unhide HW0]; simp
  have HX : Hid (∀ W, Below W0.heap.size W0 W → W.cell? ⟨w.heap.size, 0, none⟩ = some (.int .i64 x) ∧ W.cell? ⟨w.heap.size, 1, none⟩ = some (.int .i64 mask) ∧ W.cell? ⟨w.heap.size, 2, none⟩ = some (.bool dir)) := fun W hb =>
    ⟨(hb.cell (p := ⟨w.heap.size, 0, none⟩) hz0).trans (by rw [unhide HW0]; simp), (hb.cell (p := ⟨w.heap.size, 1, none⟩) hz0).trans (by rw [unhide HW0]; simp), (hb.cell (p := ⟨w.heap.size, 2, none⟩) hz0).trans (by rw [unhide HW0]; simp)⟩
  have hm5 : bits .and .i64 mode 511 = ((m9 mode : Nat) : Int) := by rw [and511, m9_val]
  have C1 := hide (fun W => text_any 2 mode W)
  have C2 := hide (fun W => alive_any W)
  obtain ⟨S, hS⟩ : ∃ S : ByteArray, S = ⟨(textP 2 mode).toArray⟩ := ⟨_, rfl⟩
  have hSb : bs S = textP 2 mode := by rw [hS]
  have hSz : S.size = 10 := by rw [← bs_len, hSb]; simp [textP]
  have hS0 : S[0] = 100 := by
    have h1 : (bs S)[0]? = some (S[0]'(by omega)) := by
      rw [List.getElem?_eq_getElem (by rw [bs_len]; omega)]; rfl
    rw [hSb] at h1
    simp [textP, kindP] at h1
    exact h1.symm
  have HAT := hide (text_at mode S hSb)
  rw [← hS] at C1
  have C4 : Hid (∀ (T : ByteArray) W, bs T = sigF (onP mode) 3 → T.size ≤ 40 → Calls Tryd.prog 9 #[.string T, .agg #[.int .i64 x, .int .i64 mask, .bool dir]] W fun e w' => e = .returned (.int .i64 ((m9 mode : Nat) : Int)) ∧ Below W.heap.size W w') := fun T W hT hz => by
    rw [← by_sig mode x mask dir, ← hT]
    exact by_any T x mask dir W (by omega)
  generalize m9 mode = M at *
  clear hS hSb
  go_enter Tryd.func4, Tryd.ntmps4
  go_wp2_with fail
  rw [← unhide HW0]
  clear HW0
  refine (unhide C1 _).mono ?_
  rintro e w1 ⟨rfl, hb⟩
  have B1 := hide hb
  clear hb C1
  go_wp2_with fail
  refine (unhide C2 _).mono ?_
  rintro e w2 ⟨rfl, hb⟩
  have B2 := hide ((unhide B1).trans (hb.mono (unhide B1).size))
  clear hb C2 B1
  go_wp2_with fail
  go_loopw [6, 7] (fun v6 v7 wr => ∃ (i : Nat) (T : ByteArray), i ≤ 3 ∧ v7 = .int .i64 i ∧ v6 = .string T ∧ T.size ≤ 6 * i ∧ Hid (bs T = sigF (onP mode) i) ∧ Hid (Below W0.heap.size W0 wr)) (fun _ v7 _ => 3 - (intOf v7).toNat)
  case atStart => exact ⟨0, { data := #[] }, by omega, rfl, rfl, by decide, rfl, B2⟩
  case round =>
    clear B2
    obtain ⟨i, T, hi, rfl, rfl, hT, HT, HB⟩ := hrel
    by_cases hlt : i < 3
    · have h012 : i = 0 ∨ i = 1 ∨ i = 2 := by omega
      rcases h012 with rfl | rfl | rfl
      · have hsl : ∀ W, Sem.run Tryd.prog (Instr.slice 9 (.string { data := #[117, 103, 111] }) (some (.int .i64 0)) (some (.int .i64 1)) none) W = .ok (.string ⟨#[117]⟩) W := fun W => slice_ugo (k := .i64) 0 (by decide) W
        obtain ⟨L, hL⟩ : ∃ L : ByteArray, L = ⟨#[117]⟩ := ⟨_, rfl⟩
        rw [← hL] at hsl
        have hLb : Hid (bs L = [117]) := by rw [hL]; exact rfl
        have hLz : L.size = 1 := by rw [hL]; rfl
        clear hL
        rw [show ((0 : Nat) : Int) = 0 from rfl]
        have hc1 : ¬ 9223372036854775807 < T.size + 1 := by omega
        go_wp2_with fail
        go_loopw [6, 8] (fun v6 v8 wx => ∃ (k : Nat) (U : ByteArray), k ≤ 3 ∧ v8 = .int .i64 k ∧ v6 = .string U ∧ U.size ≤ 3 + k ∧ Hid (bs U = sigF (onP mode) 0 ++ (lead 0 ++ grp (onP mode) 0 k)) ∧ Hid (Below W0.heap.size W0 wx)) (fun _ v8 _ => 3 - (intOf v8).toNat)
        case atStart => exact ⟨0, _, by omega, rfl, rfl, by rw [ba_size, ba_size, hLz, z61]; omega, by show bs _ = _; simp only [bs_app, unhide hLb, unhide HT]; simp [lead, grp, ltr, bs], HB⟩
        case round =>
          clear HB HT hsl hLb hLz hc1 hT
          obtain ⟨k, U, hk, rfl, rfl, hU, HU, HB⟩ := hrel
          have hsz := (unhide HB).size
          have hc2 : ¬ 9223372036854775807 < U.size + 1 := by omega
          by_cases hkt : k < 3
          · have k012 : k = 0 ∨ k = 1 ∨ k = 2 := by omega
            rcases k012 with rfl | rfl | rfl
            · obtain ⟨hin, hat⟩ := unhide HAT 0 (by decide)
              have hgs := hide (grp_succ (onP mode) 0 0)
              cases hon : onP mode 0
              · rw [sgP_off hon] at hat
                have hat2 : S[1] = 45 := hat
                have hrw : ({ data := #[114, 119, 120] } : ByteArray)[0] = 114 := rfl
                have t1 : (bits .and .i64 (mode / 256) 1 == 1) = false := by rw [and1]; simpa [onP] using hon
                have HU2 : Hid (bs U = sigF (onP mode) 0 ++ (lead 0 ++ grp (onP mode) 0 (0 + 1))) := by
                  show _ = _
                  rw [unhide hgs, show 3 * 0 + 0 = 0 from rfl, hon]; simpa using unhide HU
                clear hon hgs HU hat
                go_wp2_with fail
                go_roundw
                case rel => exact ⟨1, U, by omega, rfl, rfl, by omega, HU2, HB⟩
                case measure => simp [intOf]
              · rw [sgP_on hon] at hat
                have hat2 : S[1] = 114 := hat.trans (by decide)
                have hrw : ({ data := #[114, 119, 120] } : ByteArray)[0] = 114 := rfl
                have t1 : (bits .and .i64 (mode / 256) 1 == 1) = true := by rw [and1]; simpa [onP] using hon
                have hbk : (convert 32 9 (.slice (some ⟨wr.heap.size, 0, none⟩) 1 1)).run Tryd.prog (wr.alloc (.cells #[.int .u8 114] 5)) = .ok (.string ⟨#[114]⟩) (wr.alloc (.cells #[.int .u8 114] 5)) := one_back wr 114
                obtain ⟨Z, hZ⟩ : ∃ Z : ByteArray, Z = ⟨#[114]⟩ := ⟨_, rfl⟩
                rw [← hZ] at hbk
                have hZz : Z.size = 1 := by rw [hZ]; rfl
                have HU2 : Hid (bs (U ++ Z) = sigF (onP mode) 0 ++ (lead 0 ++ grp (onP mode) 0 (0 + 1))) := by
                  show _ = _
                  rw [unhide hgs, show 3 * 0 + 0 = 0 from rfl, hon, bs_app, unhide HU, hZ]; simp [signP]
                have hUZ : (U ++ Z).size ≤ 3 + 1 := by rw [ba_size, hZz]; omega
                clear hon hgs HU hat hZ
                go_wp2_with fail
                go_roundw
                case rel => exact ⟨1, U ++ Z, by omega, rfl, rfl, hUZ, HU2, (unhide HB).alloc hsz _⟩
                case measure => simp [intOf]
            · obtain ⟨hin, hat⟩ := unhide HAT 1 (by decide)
              have hgs := hide (grp_succ (onP mode) 0 1)
              cases hon : onP mode 1
              · rw [sgP_off hon] at hat
                have hat2 : S[2] = 45 := hat
                have hrw : ({ data := #[114, 119, 120] } : ByteArray)[1] = 119 := rfl
                have t1 : (bits .and .i64 (mode / 128) 1 == 1) = false := by rw [and1]; simpa [onP] using hon
                have HU2 : Hid (bs U = sigF (onP mode) 0 ++ (lead 0 ++ grp (onP mode) 0 (1 + 1))) := by
                  show _ = _
                  rw [unhide hgs, show 3 * 0 + 1 = 1 from rfl, hon]; simpa using unhide HU
                clear hon hgs HU hat
                go_wp2_with fail
                go_roundw
                case rel => exact ⟨2, U, by omega, rfl, rfl, by omega, HU2, HB⟩
                case measure => simp [intOf]
              · rw [sgP_on hon] at hat
                have hat2 : S[2] = 119 := hat.trans (by decide)
                have hrw : ({ data := #[114, 119, 120] } : ByteArray)[1] = 119 := rfl
                have t1 : (bits .and .i64 (mode / 128) 1 == 1) = true := by rw [and1]; simpa [onP] using hon
                have hbk : (convert 32 9 (.slice (some ⟨wr.heap.size, 0, none⟩) 1 1)).run Tryd.prog (wr.alloc (.cells #[.int .u8 119] 5)) = .ok (.string ⟨#[119]⟩) (wr.alloc (.cells #[.int .u8 119] 5)) := one_back wr 119
                obtain ⟨Z, hZ⟩ : ∃ Z : ByteArray, Z = ⟨#[119]⟩ := ⟨_, rfl⟩
                rw [← hZ] at hbk
                have hZz : Z.size = 1 := by rw [hZ]; rfl
                have HU2 : Hid (bs (U ++ Z) = sigF (onP mode) 0 ++ (lead 0 ++ grp (onP mode) 0 (1 + 1))) := by
                  show _ = _
                  rw [unhide hgs, show 3 * 0 + 1 = 1 from rfl, hon, bs_app, unhide HU, hZ]; simp [signP]
                have hUZ : (U ++ Z).size ≤ 3 + 2 := by rw [ba_size, hZz]; omega
                clear hon hgs HU hat hZ
                go_wp2_with fail
                go_roundw
                case rel => exact ⟨2, U ++ Z, by omega, rfl, rfl, hUZ, HU2, (unhide HB).alloc hsz _⟩
                case measure => simp [intOf]
            · obtain ⟨hin, hat⟩ := unhide HAT 2 (by decide)
              have hgs := hide (grp_succ (onP mode) 0 2)
              cases hon : onP mode 2
              · rw [sgP_off hon] at hat
                have hat2 : S[3] = 45 := hat
                have hrw : ({ data := #[114, 119, 120] } : ByteArray)[2] = 120 := rfl
                have t1 : (bits .and .i64 (mode / 64) 1 == 1) = false := by rw [and1]; simpa [onP] using hon
                have HU2 : Hid (bs U = sigF (onP mode) 0 ++ (lead 0 ++ grp (onP mode) 0 (2 + 1))) := by
                  show _ = _
                  rw [unhide hgs, show 3 * 0 + 2 = 2 from rfl, hon]; simpa using unhide HU
                clear hon hgs HU hat
                go_wp2_with fail
                go_roundw
                case rel => exact ⟨3, U, by omega, rfl, rfl, by omega, HU2, HB⟩
                case measure => simp [intOf]
              · rw [sgP_on hon] at hat
                have hat2 : S[3] = 120 := hat.trans (by decide)
                have hrw : ({ data := #[114, 119, 120] } : ByteArray)[2] = 120 := rfl
                have t1 : (bits .and .i64 (mode / 64) 1 == 1) = true := by rw [and1]; simpa [onP] using hon
                have hbk : (convert 32 9 (.slice (some ⟨wr.heap.size, 0, none⟩) 1 1)).run Tryd.prog (wr.alloc (.cells #[.int .u8 120] 5)) = .ok (.string ⟨#[120]⟩) (wr.alloc (.cells #[.int .u8 120] 5)) := one_back wr 120
                obtain ⟨Z, hZ⟩ : ∃ Z : ByteArray, Z = ⟨#[120]⟩ := ⟨_, rfl⟩
                rw [← hZ] at hbk
                have hZz : Z.size = 1 := by rw [hZ]; rfl
                have HU2 : Hid (bs (U ++ Z) = sigF (onP mode) 0 ++ (lead 0 ++ grp (onP mode) 0 (2 + 1))) := by
                  show _ = _
                  rw [unhide hgs, show 3 * 0 + 2 = 2 from rfl, hon, bs_app, unhide HU, hZ]; simp [signP]
                have hUZ : (U ++ Z).size ≤ 3 + 3 := by rw [ba_size, hZz]; omega
                clear hon hgs HU hat hZ
                go_wp2_with fail
                go_roundw
                case rel => exact ⟨3, U ++ Z, by omega, rfl, rfl, hUZ, HU2, (unhide HB).alloc hsz _⟩
                case measure => simp [intOf]
          · obtain rfl : k = 3 := by omega
            have HU2 : Hid (bs U = sigF (onP mode) (0 + 1)) := by rw [sigF_succ]; exact HU
            clear HU
            go_wp2_with fail
            go_roundw
            case rel => exact ⟨1, U, by omega, rfl, rfl, by omega, HU2, HB⟩
            case measure => simp [intOf]
      · have hsl : ∀ W, Sem.run Tryd.prog (Instr.slice 9 (.string { data := #[117, 103, 111] }) (some (.int .i64 1)) (some (.int .i64 2)) none) W = .ok (.string ⟨#[103]⟩) W := fun W => slice_ugo (k := .i64) 1 (by decide) W
        obtain ⟨L, hL⟩ : ∃ L : ByteArray, L = ⟨#[103]⟩ := ⟨_, rfl⟩
        rw [← hL] at hsl
        have hLb : Hid (bs L = [103]) := by rw [hL]; exact rfl
        have hLz : L.size = 1 := by rw [hL]; rfl
        clear hL
        rw [show ((1 : Nat) : Int) = 1 from rfl]
        have hc1 : ¬ 9223372036854775807 < T.size + 1 := by omega
        go_wp2_with fail
        go_loopw [6, 8] (fun v6 v8 wx => ∃ (k : Nat) (U : ByteArray), k ≤ 3 ∧ v8 = .int .i64 k ∧ v6 = .string U ∧ U.size ≤ 9 + k ∧ Hid (bs U = sigF (onP mode) 1 ++ (lead 1 ++ grp (onP mode) 1 k)) ∧ Hid (Below W0.heap.size W0 wx)) (fun _ v8 _ => 3 - (intOf v8).toNat)
        case atStart => exact ⟨0, _, by omega, rfl, rfl, by rw [ba_size, ba_size, ba_size, hLz, z61, z44]; omega, by show bs _ = _; simp only [bs_app, unhide hLb, unhide HT]; simp [lead, grp, ltr, bs], HB⟩
        case round =>
          clear HB HT hsl hLb hLz hc1 hT
          obtain ⟨k, U, hk, rfl, rfl, hU, HU, HB⟩ := hrel
          have hsz := (unhide HB).size
          have hc2 : ¬ 9223372036854775807 < U.size + 1 := by omega
          by_cases hkt : k < 3
          · have k012 : k = 0 ∨ k = 1 ∨ k = 2 := by omega
            rcases k012 with rfl | rfl | rfl
            · obtain ⟨hin, hat⟩ := unhide HAT 3 (by decide)
              have hgs := hide (grp_succ (onP mode) 1 0)
              cases hon : onP mode 3
              · rw [sgP_off hon] at hat
                have hat2 : S[4] = 45 := hat
                have hrw : ({ data := #[114, 119, 120] } : ByteArray)[0] = 114 := rfl
                have t1 : (bits .and .i64 (mode / 32) 1 == 1) = false := by rw [and1]; simpa [onP] using hon
                have HU2 : Hid (bs U = sigF (onP mode) 1 ++ (lead 1 ++ grp (onP mode) 1 (0 + 1))) := by
                  show _ = _
                  rw [unhide hgs, show 3 * 1 + 0 = 3 from rfl, hon]; simpa using unhide HU
                clear hon hgs HU hat
                go_wp2_with fail
                go_roundw
                case rel => exact ⟨1, U, by omega, rfl, rfl, by omega, HU2, HB⟩
                case measure => simp [intOf]
              · rw [sgP_on hon] at hat
                have hat2 : S[4] = 114 := hat.trans (by decide)
                have hrw : ({ data := #[114, 119, 120] } : ByteArray)[0] = 114 := rfl
                have t1 : (bits .and .i64 (mode / 32) 1 == 1) = true := by rw [and1]; simpa [onP] using hon
                have hbk : (convert 32 9 (.slice (some ⟨wr.heap.size, 0, none⟩) 1 1)).run Tryd.prog (wr.alloc (.cells #[.int .u8 114] 5)) = .ok (.string ⟨#[114]⟩) (wr.alloc (.cells #[.int .u8 114] 5)) := one_back wr 114
                obtain ⟨Z, hZ⟩ : ∃ Z : ByteArray, Z = ⟨#[114]⟩ := ⟨_, rfl⟩
                rw [← hZ] at hbk
                have hZz : Z.size = 1 := by rw [hZ]; rfl
                have HU2 : Hid (bs (U ++ Z) = sigF (onP mode) 1 ++ (lead 1 ++ grp (onP mode) 1 (0 + 1))) := by
                  show _ = _
                  rw [unhide hgs, show 3 * 1 + 0 = 3 from rfl, hon, bs_app, unhide HU, hZ]; simp [signP]
                have hUZ : (U ++ Z).size ≤ 9 + 1 := by rw [ba_size, hZz]; omega
                clear hon hgs HU hat hZ
                go_wp2_with fail
                go_roundw
                case rel => exact ⟨1, U ++ Z, by omega, rfl, rfl, hUZ, HU2, (unhide HB).alloc hsz _⟩
                case measure => simp [intOf]
            · obtain ⟨hin, hat⟩ := unhide HAT 4 (by decide)
              have hgs := hide (grp_succ (onP mode) 1 1)
              cases hon : onP mode 4
              · rw [sgP_off hon] at hat
                have hat2 : S[5] = 45 := hat
                have hrw : ({ data := #[114, 119, 120] } : ByteArray)[1] = 119 := rfl
                have t1 : (bits .and .i64 (mode / 16) 1 == 1) = false := by rw [and1]; simpa [onP] using hon
                have HU2 : Hid (bs U = sigF (onP mode) 1 ++ (lead 1 ++ grp (onP mode) 1 (1 + 1))) := by
                  show _ = _
                  rw [unhide hgs, show 3 * 1 + 1 = 4 from rfl, hon]; simpa using unhide HU
                clear hon hgs HU hat
                go_wp2_with fail
                go_roundw
                case rel => exact ⟨2, U, by omega, rfl, rfl, by omega, HU2, HB⟩
                case measure => simp [intOf]
              · rw [sgP_on hon] at hat
                have hat2 : S[5] = 119 := hat.trans (by decide)
                have hrw : ({ data := #[114, 119, 120] } : ByteArray)[1] = 119 := rfl
                have t1 : (bits .and .i64 (mode / 16) 1 == 1) = true := by rw [and1]; simpa [onP] using hon
                have hbk : (convert 32 9 (.slice (some ⟨wr.heap.size, 0, none⟩) 1 1)).run Tryd.prog (wr.alloc (.cells #[.int .u8 119] 5)) = .ok (.string ⟨#[119]⟩) (wr.alloc (.cells #[.int .u8 119] 5)) := one_back wr 119
                obtain ⟨Z, hZ⟩ : ∃ Z : ByteArray, Z = ⟨#[119]⟩ := ⟨_, rfl⟩
                rw [← hZ] at hbk
                have hZz : Z.size = 1 := by rw [hZ]; rfl
                have HU2 : Hid (bs (U ++ Z) = sigF (onP mode) 1 ++ (lead 1 ++ grp (onP mode) 1 (1 + 1))) := by
                  show _ = _
                  rw [unhide hgs, show 3 * 1 + 1 = 4 from rfl, hon, bs_app, unhide HU, hZ]; simp [signP]
                have hUZ : (U ++ Z).size ≤ 9 + 2 := by rw [ba_size, hZz]; omega
                clear hon hgs HU hat hZ
                go_wp2_with fail
                go_roundw
                case rel => exact ⟨2, U ++ Z, by omega, rfl, rfl, hUZ, HU2, (unhide HB).alloc hsz _⟩
                case measure => simp [intOf]
            · obtain ⟨hin, hat⟩ := unhide HAT 5 (by decide)
              have hgs := hide (grp_succ (onP mode) 1 2)
              cases hon : onP mode 5
              · rw [sgP_off hon] at hat
                have hat2 : S[6] = 45 := hat
                have hrw : ({ data := #[114, 119, 120] } : ByteArray)[2] = 120 := rfl
                have t1 : (bits .and .i64 (mode / 8) 1 == 1) = false := by rw [and1]; simpa [onP] using hon
                have HU2 : Hid (bs U = sigF (onP mode) 1 ++ (lead 1 ++ grp (onP mode) 1 (2 + 1))) := by
                  show _ = _
                  rw [unhide hgs, show 3 * 1 + 2 = 5 from rfl, hon]; simpa using unhide HU
                clear hon hgs HU hat
                go_wp2_with fail
                go_roundw
                case rel => exact ⟨3, U, by omega, rfl, rfl, by omega, HU2, HB⟩
                case measure => simp [intOf]
              · rw [sgP_on hon] at hat
                have hat2 : S[6] = 120 := hat.trans (by decide)
                have hrw : ({ data := #[114, 119, 120] } : ByteArray)[2] = 120 := rfl
                have t1 : (bits .and .i64 (mode / 8) 1 == 1) = true := by rw [and1]; simpa [onP] using hon
                have hbk : (convert 32 9 (.slice (some ⟨wr.heap.size, 0, none⟩) 1 1)).run Tryd.prog (wr.alloc (.cells #[.int .u8 120] 5)) = .ok (.string ⟨#[120]⟩) (wr.alloc (.cells #[.int .u8 120] 5)) := one_back wr 120
                obtain ⟨Z, hZ⟩ : ∃ Z : ByteArray, Z = ⟨#[120]⟩ := ⟨_, rfl⟩
                rw [← hZ] at hbk
                have hZz : Z.size = 1 := by rw [hZ]; rfl
                have HU2 : Hid (bs (U ++ Z) = sigF (onP mode) 1 ++ (lead 1 ++ grp (onP mode) 1 (2 + 1))) := by
                  show _ = _
                  rw [unhide hgs, show 3 * 1 + 2 = 5 from rfl, hon, bs_app, unhide HU, hZ]; simp [signP]
                have hUZ : (U ++ Z).size ≤ 9 + 3 := by rw [ba_size, hZz]; omega
                clear hon hgs HU hat hZ
                go_wp2_with fail
                go_roundw
                case rel => exact ⟨3, U ++ Z, by omega, rfl, rfl, hUZ, HU2, (unhide HB).alloc hsz _⟩
                case measure => simp [intOf]
          · obtain rfl : k = 3 := by omega
            have HU2 : Hid (bs U = sigF (onP mode) (1 + 1)) := by rw [sigF_succ]; exact HU
            clear HU
            go_wp2_with fail
            go_roundw
            case rel => exact ⟨2, U, by omega, rfl, rfl, by omega, HU2, HB⟩
            case measure => simp [intOf]
      · have hsl : ∀ W, Sem.run Tryd.prog (Instr.slice 9 (.string { data := #[117, 103, 111] }) (some (.int .i64 2)) (some (.int .i64 3)) none) W = .ok (.string ⟨#[111]⟩) W := fun W => slice_ugo (k := .i64) 2 (by decide) W
        obtain ⟨L, hL⟩ : ∃ L : ByteArray, L = ⟨#[111]⟩ := ⟨_, rfl⟩
        rw [← hL] at hsl
        have hLb : Hid (bs L = [111]) := by rw [hL]; exact rfl
        have hLz : L.size = 1 := by rw [hL]; rfl
        clear hL
        rw [show ((2 : Nat) : Int) = 2 from rfl]
        have hc1 : ¬ 9223372036854775807 < T.size + 1 := by omega
        go_wp2_with fail
        go_loopw [6, 8] (fun v6 v8 wx => ∃ (k : Nat) (U : ByteArray), k ≤ 3 ∧ v8 = .int .i64 k ∧ v6 = .string U ∧ U.size ≤ 15 + k ∧ Hid (bs U = sigF (onP mode) 2 ++ (lead 2 ++ grp (onP mode) 2 k)) ∧ Hid (Below W0.heap.size W0 wx)) (fun _ v8 _ => 3 - (intOf v8).toNat)
        case atStart => exact ⟨0, _, by omega, rfl, rfl, by rw [ba_size, ba_size, ba_size, hLz, z61, z44]; omega, by show bs _ = _; simp only [bs_app, unhide hLb, unhide HT]; simp [lead, grp, ltr, bs], HB⟩
        case round =>
          clear HB HT hsl hLb hLz hc1 hT
          obtain ⟨k, U, hk, rfl, rfl, hU, HU, HB⟩ := hrel
          have hsz := (unhide HB).size
          have hc2 : ¬ 9223372036854775807 < U.size + 1 := by omega
          by_cases hkt : k < 3
          · have k012 : k = 0 ∨ k = 1 ∨ k = 2 := by omega
            rcases k012 with rfl | rfl | rfl
            · obtain ⟨hin, hat⟩ := unhide HAT 6 (by decide)
              have hgs := hide (grp_succ (onP mode) 2 0)
              cases hon : onP mode 6
              · rw [sgP_off hon] at hat
                have hat2 : S[7] = 45 := hat
                have hrw : ({ data := #[114, 119, 120] } : ByteArray)[0] = 114 := rfl
                have t1 : (bits .and .i64 (mode / 4) 1 == 1) = false := by rw [and1]; simpa [onP] using hon
                have HU2 : Hid (bs U = sigF (onP mode) 2 ++ (lead 2 ++ grp (onP mode) 2 (0 + 1))) := by
                  show _ = _
                  rw [unhide hgs, show 3 * 2 + 0 = 6 from rfl, hon]; simpa using unhide HU
                clear hon hgs HU hat
                go_wp2_with fail
                go_roundw
                case rel => exact ⟨1, U, by omega, rfl, rfl, by omega, HU2, HB⟩
                case measure => simp [intOf]
              · rw [sgP_on hon] at hat
                have hat2 : S[7] = 114 := hat.trans (by decide)
                have hrw : ({ data := #[114, 119, 120] } : ByteArray)[0] = 114 := rfl
                have t1 : (bits .and .i64 (mode / 4) 1 == 1) = true := by rw [and1]; simpa [onP] using hon
                have hbk : (convert 32 9 (.slice (some ⟨wr.heap.size, 0, none⟩) 1 1)).run Tryd.prog (wr.alloc (.cells #[.int .u8 114] 5)) = .ok (.string ⟨#[114]⟩) (wr.alloc (.cells #[.int .u8 114] 5)) := one_back wr 114
                obtain ⟨Z, hZ⟩ : ∃ Z : ByteArray, Z = ⟨#[114]⟩ := ⟨_, rfl⟩
                rw [← hZ] at hbk
                have hZz : Z.size = 1 := by rw [hZ]; rfl
                have HU2 : Hid (bs (U ++ Z) = sigF (onP mode) 2 ++ (lead 2 ++ grp (onP mode) 2 (0 + 1))) := by
                  show _ = _
                  rw [unhide hgs, show 3 * 2 + 0 = 6 from rfl, hon, bs_app, unhide HU, hZ]; simp [signP]
                have hUZ : (U ++ Z).size ≤ 15 + 1 := by rw [ba_size, hZz]; omega
                clear hon hgs HU hat hZ
                go_wp2_with fail
                go_roundw
                case rel => exact ⟨1, U ++ Z, by omega, rfl, rfl, hUZ, HU2, (unhide HB).alloc hsz _⟩
                case measure => simp [intOf]
            · obtain ⟨hin, hat⟩ := unhide HAT 7 (by decide)
              have hgs := hide (grp_succ (onP mode) 2 1)
              cases hon : onP mode 7
              · rw [sgP_off hon] at hat
                have hat2 : S[8] = 45 := hat
                have hrw : ({ data := #[114, 119, 120] } : ByteArray)[1] = 119 := rfl
                have t1 : (bits .and .i64 (mode / 2) 1 == 1) = false := by rw [and1]; simpa [onP] using hon
                have HU2 : Hid (bs U = sigF (onP mode) 2 ++ (lead 2 ++ grp (onP mode) 2 (1 + 1))) := by
                  show _ = _
                  rw [unhide hgs, show 3 * 2 + 1 = 7 from rfl, hon]; simpa using unhide HU
                clear hon hgs HU hat
                go_wp2_with fail
                go_roundw
                case rel => exact ⟨2, U, by omega, rfl, rfl, by omega, HU2, HB⟩
                case measure => simp [intOf]
              · rw [sgP_on hon] at hat
                have hat2 : S[8] = 119 := hat.trans (by decide)
                have hrw : ({ data := #[114, 119, 120] } : ByteArray)[1] = 119 := rfl
                have t1 : (bits .and .i64 (mode / 2) 1 == 1) = true := by rw [and1]; simpa [onP] using hon
                have hbk : (convert 32 9 (.slice (some ⟨wr.heap.size, 0, none⟩) 1 1)).run Tryd.prog (wr.alloc (.cells #[.int .u8 119] 5)) = .ok (.string ⟨#[119]⟩) (wr.alloc (.cells #[.int .u8 119] 5)) := one_back wr 119
                obtain ⟨Z, hZ⟩ : ∃ Z : ByteArray, Z = ⟨#[119]⟩ := ⟨_, rfl⟩
                rw [← hZ] at hbk
                have hZz : Z.size = 1 := by rw [hZ]; rfl
                have HU2 : Hid (bs (U ++ Z) = sigF (onP mode) 2 ++ (lead 2 ++ grp (onP mode) 2 (1 + 1))) := by
                  show _ = _
                  rw [unhide hgs, show 3 * 2 + 1 = 7 from rfl, hon, bs_app, unhide HU, hZ]; simp [signP]
                have hUZ : (U ++ Z).size ≤ 15 + 2 := by rw [ba_size, hZz]; omega
                clear hon hgs HU hat hZ
                go_wp2_with fail
                go_roundw
                case rel => exact ⟨2, U ++ Z, by omega, rfl, rfl, hUZ, HU2, (unhide HB).alloc hsz _⟩
                case measure => simp [intOf]
            · obtain ⟨hin, hat⟩ := unhide HAT 8 (by decide)
              have hgs := hide (grp_succ (onP mode) 2 2)
              cases hon : onP mode 8
              · rw [sgP_off hon] at hat
                have hat2 : S[9] = 45 := hat
                have hrw : ({ data := #[114, 119, 120] } : ByteArray)[2] = 120 := rfl
                have t1 : (bits .and .i64 mode 1 == 1) = false := by rw [and1]; simpa [onP] using hon
                have HU2 : Hid (bs U = sigF (onP mode) 2 ++ (lead 2 ++ grp (onP mode) 2 (2 + 1))) := by
                  show _ = _
                  rw [unhide hgs, show 3 * 2 + 2 = 8 from rfl, hon]; simpa using unhide HU
                clear hon hgs HU hat
                go_wp2_with fail
                go_roundw
                case rel => exact ⟨3, U, by omega, rfl, rfl, by omega, HU2, HB⟩
                case measure => simp [intOf]
              · rw [sgP_on hon] at hat
                have hat2 : S[9] = 120 := hat.trans (by decide)
                have hrw : ({ data := #[114, 119, 120] } : ByteArray)[2] = 120 := rfl
                have t1 : (bits .and .i64 mode 1 == 1) = true := by rw [and1]; simpa [onP] using hon
                have hbk : (convert 32 9 (.slice (some ⟨wr.heap.size, 0, none⟩) 1 1)).run Tryd.prog (wr.alloc (.cells #[.int .u8 120] 5)) = .ok (.string ⟨#[120]⟩) (wr.alloc (.cells #[.int .u8 120] 5)) := one_back wr 120
                obtain ⟨Z, hZ⟩ : ∃ Z : ByteArray, Z = ⟨#[120]⟩ := ⟨_, rfl⟩
                rw [← hZ] at hbk
                have hZz : Z.size = 1 := by rw [hZ]; rfl
                have HU2 : Hid (bs (U ++ Z) = sigF (onP mode) 2 ++ (lead 2 ++ grp (onP mode) 2 (2 + 1))) := by
                  show _ = _
                  rw [unhide hgs, show 3 * 2 + 2 = 8 from rfl, hon, bs_app, unhide HU, hZ]; simp [signP]
                have hUZ : (U ++ Z).size ≤ 15 + 3 := by rw [ba_size, hZz]; omega
                clear hon hgs HU hat hZ
                go_wp2_with fail
                go_roundw
                case rel => exact ⟨3, U ++ Z, by omega, rfl, rfl, hUZ, HU2, (unhide HB).alloc hsz _⟩
                case measure => simp [intOf]
          · obtain rfl : k = 3 := by omega
            have HU2 : Hid (bs U = sigF (onP mode) (2 + 1)) := by rw [sigF_succ]; exact HU
            clear HU
            go_wp2_with fail
            go_roundw
            case rel => exact ⟨3, U, by omega, rfl, rfl, by omega, HU2, HB⟩
            case measure => simp [intOf]
    · obtain rfl : i = 3 := by omega
      obtain ⟨g0, g1, g2⟩ := unhide HX wr (unhide HB)
      have CB := hide (unhide C4 T wr (unhide HT) (by omega))
      clear HT
      go_wp2_with fail
      refine (unhide CB).mono ?_
      rintro e w5 ⟨rfl, hb⟩
      have B5 := hide ((unhide HB).trans (hb.mono (unhide HB).size))
      clear hb CB HB g0 g1 g2
      go_wp2_with fail
      go_ret
      exact ⟨by first | rfl | simp, (unhide HB0).trans ((unhide B5).mono (unhide HB0).size)⟩
end Go.Proofs.YtijknodbaddelaaDoor.Mo
