/- What the document's Parse answers. -/
import Derived.Test.YtjgboecifonjdaaGreatDoorSeRefCls
import Derived.Test.YtjgboecifonjdaaGreatDoorSeRefSin
import Derived.Test.YtjgboecifonjdaaGreatDoorSeRC
import Derived.Test.YtjgboecifonjdaaGreatDoorSeParse2
namespace Go.Proofs.YtjgboecifonjdaaGreatDoor.Se
open Go.RowKit

theorem clsLen_zero {t : Bs} (h : clsLen t = 0) : cutC t = none := by
  unfold clsLen at h
  split at h
  · assumption
  · omega
theorem clsLen_pos {t : Bs} (h : clsLen t ≠ 0) : ∃ n r, cutC t = some (n, r) ∧ clsLen t = n.length + 4 ∧ t = 91 :: 58 :: (n ++ 58 :: 93 :: r) := by
  cases hc : cutC t with
  | none => unfold clsLen at h; rw [hc] at h; exact absurd rfl h
  | some x =>
    obtain ⟨n, r⟩ := x
    refine ⟨n, r, rfl, by unfold clsLen; rw [hc], ?_⟩
    unfold cutC at hc
    split at hc
    · rename_i a b q
      split at hc
      · rename_i hab
        split at hc
        · rename_i c d u hd
          split at hc
          · rename_i hcd
            simp only [Option.some.injEq, Prod.mk.injEq] at hc
            have := List.takeWhile_append_dropWhile (p := low) (l := q)
            rw [hd, hc.1, hcd.1, hcd.2, hc.2] at this
            rw [hab.1, hab.2, this]
          · cases hc
        · cases hc
      · cases hc
    · cases hc
theorem goesOn_at (s : ByteArray) (k : Nat) : goesOn ((bs s).drop k) = if h : k + 1 < s.size then decide (s[k] = 45) && decide (clsLen ((bs s).drop (k + 1)) = 0) else false := by
  by_cases h : k + 1 < s.size
  · rw [dif_pos h]
    have hz : decide (clsLen ((bs s).drop (k + 1)) = 0) = (cutC ((bs s).drop (k + 1))).isNone := by
      cases hc : cutC ((bs s).drop (k + 1)) with
      | none => unfold clsLen; rw [hc]; rfl
      | some x => obtain ⟨n, r⟩ := x; unfold clsLen; rw [hc]; simp
    rw [hz, bs_at s k (by omega), bs_at s (k + 1) h]
    rfl
  · rw [dif_neg h]
    by_cases h2 : k < s.size
    · rw [bs_at s k h2, bs_end s (k + 1) (by omega)]; rfl
    · rw [bs_end s k (by omega)]; rfl
theorem take_more (T : Bs) (c : UInt8) : (T ++ [c]).take 65536 = if T.length + 1 ≤ 65536 then T.take 65536 ++ [c] else T.take 65536 := by
  by_cases h : T.length + 1 ≤ 65536
  · rw [if_pos h, List.take_of_length_le (by simp; omega), List.take_of_length_le (by omega)]
  · rw [if_neg h, List.take_append_of_le_length (by omega)]

set_option maxHeartbeats 2000000 in
set_option maxRecDepth 100000 in
theorem refParse_any (s : ByteArray) (w : World) (hs : s.size ≤ 1048576) :
    Calls Tryz.prog 6 #[.string s] w fun e w' => ∃ v, e = .returned (.tuple #[v, .int .i64 (parse (bs s)).2]) ∧ Row w.heap.size v (parse (bs s)).1 w' ∧ Below w.heap.size w w' := by
  obtain ⟨i0, hi, hz0, hz1, hz2⟩ := info_parts Tryz.infoByte
  have PF : Hid (told (bs s) = none → parse (bs s) = ([], 5)) := fun h => by unfold parse; rw [h]
  have PL : Hid (∀ T, told (bs s) = some T → 65536 < T.length → parse (bs s) = ([], 3)) := fun T h hT => by unfold parse; rw [h]; simp only; rw [if_pos hT]
  have PO : Hid (∀ T, told (bs s) = some T → T.length ≤ 65536 → parse (bs s) = (T, 0)) := fun T h hT => by unfold parse; rw [h]; simp only; rw [if_neg (by omega)]
  go_enter Tryz.func6, Tryz.ntmps6
  go_wp2_with fail
  go_loopw [4, 5, 6] (fun u tv iv wr => ∃ (i f : Nat) (T : Bs), i ≤ s.size ∧ iv = .int .i64 i ∧ tv = .int .i64 (T.length : Int) ∧ s.size ≤ i + f ∧ T.length ≤ 256 * i ∧ Hid (told (bs s) = (tell f ((bs s).drop i)).map (T ++ ·)) ∧ Hid (Row w.heap.size u (T.take 65536) wr) ∧ Hid (Below w.heap.size w wr))
    (fun _ _ iv _ => s.size - (intOf iv).toNat)
  case atStart =>
    refine ⟨0, s.size, [], Nat.zero_le _, rfl, rfl, by omega, by simp, ?_, row_nil _ _, Below.refl _ _⟩
    show told (bs s) = _
    unfold told
    rw [bs_len, List.drop_zero]
    cases tell s.size (bs s) <;> rfl
  case round =>
    obtain ⟨i, f, T, hil, rfl, rfl, hf, hTl, hT, hrow, hnx⟩ := hrel
    by_cases hlt : i < s.size
    · have hlt' : (i : Int) < (s.size : Int) := by omega
      obtain ⟨f, rfl⟩ : ∃ f', f = f' + 1 := ⟨f - 1, by omega⟩
      have hT2 : Hid (told (bs s) = ((match thing ((bs s).drop i) with | none => none | some (l, t) => (tell f t).map (l ++ ·)) : Option Bs).map (T ++ ·)) := by
        rw [unhide hT, tell_step (by rw [List.length_drop, bs_len]; omega) (by rw [List.length_drop, bs_len]; omega)]; exact rfl
      have BAD : Hid (thing ((bs s).drop i) = none → parse (bs s) = ([], 5)) := fun h => unhide PF (by rw [unhide hT2, h]; rfl)
      have ADV : Hid (∀ x (k : Nat), thing ((bs s).drop i) = some (x, (bs s).drop k) → told (bs s) = (tell f ((bs s).drop k)).map ((T ++ x) ++ ·)) := by
        intro x k h
        rw [unhide hT2, h]; simp only
        cases tell f ((bs s).drop k) <;> simp
      have C1 := hide (class_any s i wr (by omega) hil)
      clear hT hT2
      by_cases hz : clsLen ((bs s).drop i) = 0
      · have hcn := clsLen_zero hz
        have TH : Hid (thing ((bs s).drop i) = match range ((bs s).drop i) with | none => none | some (a, b, r) => some (spanTo a b, r)) := by
          show _ = _
          conv => lhs; unfold thing
          rw [hcn]
          rfl
        rw [hz] at C1
        clear hz hcn
        have C2 := hide (single_any s i wr (by omega) hlt)
        go_wp2_with fail
        refine (unhide C1).mono ?_
        rintro e w1 ⟨rfl, rfl⟩
        clear C1
        go_wp2_with fail
        refine (unhide C2).mono ?_
        rintro e w2 ⟨⟨c, k, ok, rfl, hh⟩, hb2⟩
        have hsz1 := (unhide hnx).size
        have R2 := hide (row_below (unhide hrow) hb2)
        have B2 : Hid (Below w.heap.size w w2) := (unhide hnx).trans (hb2.mono hsz1)
        clear C2 hrow hnx hb2 hsz1
        rcases hh with ⟨rfl, hsg⟩ | ⟨rfl, hks, hik, a, rfl, hsg⟩
        · have P := hide (unhide BAD (by rw [unhide TH]; unfold range; rw [hsg]))
          clear hsg TH BAD ADV
          go_wp2_with fail
          go_ret2
          exact ⟨_, by rw [unhide P]; rfl, by rw [unhide P]; exact row_nil _ _, unhide B2⟩
        · have RG : Hid (range ((bs s).drop i) = if goesOn ((bs s).drop k) = true then (match single (((bs s).drop k).drop 1) with | none => none | some (b, t) => if a ≤ b then some (a, b, t) else none) else some (a, a, (bs s).drop k)) := by
            show _ = _
            conv => lhs; unfold range
            rw [hsg]
            rfl
          have HG := hide (goesOn_at s k)
          clear hsg
          by_cases g1 : k + 1 < s.size
          · have g1' : (k : Int) + 1 < (s.size : Int) := by omega
            have gk : (k : Int) < (s.size : Int) := by omega
            by_cases g2 : (s[k].toNat : Int) = 45
            · have t2 : ((s[k].toNat : Int) == 45) = true := by simp [g2]
              have C3 := hide (class_any s (k + 1) w2 (by omega) (by omega))
              by_cases g3 : clsLen ((bs s).drop (k + 1)) = 0
              · have hgo : goesOn ((bs s).drop k) = true := by rw [unhide HG, dif_pos g1, show s[k] = 45 from u8_eq g2, g3]; rfl
                rw [g3] at C3
                rw [hgo, if_pos rfl, List.drop_drop] at RG
                have C4 := hide (single_any s (k + 1) w2 (by omega) g1)
                clear g2 g3 hgo HG
                have ck : ((k + 1 : Nat) : Int) = (k : Int) + 1 := by omega
                rw [ck] at C3 C4
                clear ck
                go_wp2_with fail
                refine (unhide C3).mono ?_
                rintro e w3 ⟨rfl, rfl⟩
                go_wp2_with fail
                refine (unhide C4).mono ?_
                rintro e w4 ⟨⟨c4, k4, ok4, rfl, hh4⟩, hb4⟩
                have hsz3 := (unhide B2).size
                have R4 := hide (row_below (unhide R2) hb4)
                have B4 : Hid (Below w.heap.size w w4) := (unhide B2).trans (hb4.mono hsz3)
                clear C3 C4 R2 B2 hb4 hsz3
                rcases hh4 with ⟨rfl, hsg⟩ | ⟨rfl, hks4, hik4, d, rfl, hsg⟩
                · have P := hide (unhide BAD (by rw [unhide TH, unhide RG, hsg]))
                  clear hsg TH BAD ADV RG
                  go_wp2_with fail
                  go_ret2
                  exact ⟨_, by rw [unhide P]; rfl, by rw [unhide P]; exact row_nil _ _, unhide B4⟩
                · rw [hsg] at RG
                  clear hsg
                  by_cases hle : (d.toNat : Int) < (a.toNat : Int)
                  · have hno : ¬ a ≤ d := fun h => by have := UInt8.le_iff_toNat_le.1 h; omega
                    have P := hide (unhide BAD (by rw [unhide TH, unhide RG]; simp only; rw [if_neg hno]))
                    clear TH BAD ADV RG hno
                    go_wp2_with fail
                    go_ret2
                    exact ⟨_, by rw [unhide P]; rfl, by rw [unhide P]; exact row_nil _ _, unhide B4⟩
                  · have hyes : a ≤ d := UInt8.le_iff_toNat_le.2 (by omega)
                    have HX : Hid (thing ((bs s).drop i) = some (spanTo a d, (bs s).drop k4)) := by rw [unhide TH, unhide RG]; simp only; rw [if_pos hyes]; exact rfl
                    have hab : a.toNat ≤ d.toNat := by omega
                    have hle2 : ¬ d.toNat < a.toNat := by omega
                    clear RG hyes
                    have ADV2 := hide (unhide ADV _ _ (unhide HX))
                    have hSP : Hid (spanTo a d = span a.toNat (d.toNat + 1 - a.toNat)) := rfl
                    have hb255 := d.toNat_lt
                    have hb255' : (d.toNat : Int) ≤ 255 := by omega
                    rw [unhide hSP] at ADV2
                    clear HX ADV BAD hSP TH
                    go_wp2_with fail
                    go_loopw [4, 5, 16] (fun u tv xv wq => ∃ j : Nat, a.toNat + j ≤ d.toNat + 1 ∧ xv = .int .i64 ((a.toNat + j : Nat) : Int) ∧ tv = .int .i64 ((T ++ span a.toNat j).length : Int) ∧ Hid (Row w.heap.size u ((T ++ span a.toNat j).take 65536) wq) ∧ Hid (Below w.heap.size w wq)) (fun _ _ xv _ => d.toNat + 1 - (intOf xv).toNat)
                    case atStart => exact ⟨0, by omega, by go_num, by simp [span], by simpa [span, Hid] using unhide R4, B4⟩
                    case round =>
                      clear R4 B4
                      obtain ⟨j, hj, rfl, rfl, hrw, hbl⟩ := hrel
                      obtain ⟨x, hx⟩ : ∃ x, x = a.toNat + j := ⟨_, rfl⟩
                      rw [← hx] at hj ⊢
                      have hLl : (T ++ span a.toNat j).length ≤ 268435712 := by rw [List.length_append, span_length]; omega
                      by_cases hxb : x ≤ d.toNat
                      · have hxb' : (x : Int) ≤ (d.toNat : Int) := by omega
                        have hx255 : (x : Int) ≤ 255 := by omega
                        have hsz2 := (unhide hbl).size
                        obtain ⟨c, hc⟩ : ∃ c, c = UInt8.ofNat x := ⟨_, rfl⟩
                        have hck : Hid ((x : Int) = (c.toNat : Int)) := by rw [hc]; simp [Hid]; omega
                        have hsn : Hid (T ++ span a.toNat (j + 1) = (T ++ span a.toNat j) ++ [c]) := by rw [span_snoc, hc, hx]; simp [Hid]
                        have htk := hide (take_more (T ++ span a.toNat j) c)
                        have hHX := hide hx
                        have hl65 : ((T ++ span a.toNat j).take 65536).length ≤ 65536 := by rw [List.length_take]; omega
                        obtain ⟨L, hL⟩ : ∃ L, L = T ++ span a.toNat j := ⟨_, rfl⟩
                        rw [← hL] at hrw hLl hsn htk hl65 ⊢
                        clear hL hc hx
                        obtain ⟨M, hM⟩ : ∃ M, M = L.take 65536 := ⟨_, rfl⟩
                        rw [← hM] at hrw htk hl65
                        have hlen : Hid ((L ++ [c]).length = L.length + 1) := by simp [Hid]
                        clear hM
                        by_cases hfit : L.length + 1 ≤ 65536
                        · have hfit' : (L.length : Int) + 1 ≤ 65536 := by omega
                          rw [if_pos hfit] at htk
                          obtain ⟨N, hN⟩ : ∃ N, N = L.length := ⟨_, rfl⟩
                          rw [← hN] at hfit' hlen hLl ⊢
                          clear hN hfit
                          go_wp2_with (at_builtin; refine wpList_append_own _ rfl _ _ 23 rfl w.heap.size 5 i0 (.int .u8 0) 1 1 Tryz.underlying23 hi hz0 hz1 hz2 rfl (by decide) _ _ _ rfl ((unhide hrw).alloc _) ⟨wr.heap.size, 0, none⟩ 1 1 [.int .u8 (x : Int)] rfl rfl (byte_new _ _ _) (byte_one _) (by unfold maxLen; omega) (by omega) (by simp; omega) ?_; intro v' w9 hown9 hg9 hnil9)
                          have hn : Hid (Row w.heap.size v' ((T ++ span a.toNat (j + 1)).take 65536) w9) := by rw [unhide hsn, unhide htk]; exact row_snoc hown9 (unhide hck)
                          have hB9 : Hid (Below w.heap.size w w9) := (unhide hbl).grown (grown_alloc hg9) hsz2 (row_lo (unhide hrw))
                          clear hown9 hg9 hnil9
                          go_roundw
                          case rel => exact ⟨j + 1, by have := unhide hHX; omega, by have := unhide hHX; go_num, by rw [unhide hsn, unhide hlen]; go_num, hn, hB9⟩
                          case measure => simp [intOf]; omega
                        · have hfit' : ¬ (L.length : Int) + 1 ≤ 65536 := by omega
                          rw [if_neg hfit] at htk
                          obtain ⟨N, hN⟩ : ∃ N, N = L.length := ⟨_, rfl⟩
                          rw [← hN] at hfit' hlen hLl ⊢
                          clear hN hfit
                          have hn : Hid (Row w.heap.size u4 ((T ++ span a.toNat (j + 1)).take 65536) wr) := by rw [unhide hsn, unhide htk]; exact unhide hrw
                          clear hrw
                          go_wp2_with fail
                          go_roundw
                          case rel => exact ⟨j + 1, by have := unhide hHX; omega, by have := unhide hHX; go_num, by rw [unhide hsn, unhide hlen]; go_num, hn, hbl⟩
                          case measure => simp [intOf]; omega
                      · have hxb' : ¬ (x : Int) ≤ (d.toNat : Int) := by omega
                        have hjj : j = d.toNat + 1 - a.toNat := by omega
                        rw [← hjj] at ADV2
                        have hll : (T ++ span a.toNat j).length ≤ 256 * k4 := by rw [List.length_append, span_length]; omega
                        generalize T ++ span a.toNat j = L at *
                        clear hjj hx
                        go_wp2_with fail
                        go_roundw
                        case rel => exact ⟨k4, f, L, by omega, rfl, rfl, by omega, hll, ADV2, hrw, hbl⟩
                        case measure => simp [intOf]; omega
              · have hgo : goesOn ((bs s).drop k) = false := by rw [unhide HG, dif_pos g1, decide_eq_false g3]; simp
                have ck : ((k + 1 : Nat) : Int) = (k : Int) + 1 := by omega
                rw [ck] at C3
                obtain ⟨q, hq⟩ : ∃ q, q = clsLen ((bs s).drop (k + 1)) := ⟨_, rfl⟩
                rw [← hq] at C3 g3
                have t3 : ((q : Int) == 0) = false := by simp; omega
                clear g2 g3 ck hq HG
                have HX : Hid (thing ((bs s).drop i) = some (spanTo a a, (bs s).drop k)) := by rw [unhide TH, unhide RG, hgo]; exact rfl
                have hab : a.toNat ≤ a.toNat := Nat.le_refl _
                clear RG hgo
                go_wp2_with fail
                refine (unhide C3).mono ?_
                rintro e w3 ⟨rfl, rfl⟩
                clear C3
                have ADV2 := hide (unhide ADV _ _ (unhide HX))
                have hSP : Hid (spanTo a a = span a.toNat (a.toNat + 1 - a.toNat)) := rfl
                have hb255 := a.toNat_lt
                have hb255' : (a.toNat : Int) ≤ 255 := by omega
                rw [unhide hSP] at ADV2
                clear HX ADV BAD hSP TH
                go_wp2_with fail
                go_loopw [4, 5, 16] (fun u tv xv wq => ∃ j : Nat, a.toNat + j ≤ a.toNat + 1 ∧ xv = .int .i64 ((a.toNat + j : Nat) : Int) ∧ tv = .int .i64 ((T ++ span a.toNat j).length : Int) ∧ Hid (Row w.heap.size u ((T ++ span a.toNat j).take 65536) wq) ∧ Hid (Below w.heap.size w wq)) (fun _ _ xv _ => a.toNat + 1 - (intOf xv).toNat)
                case atStart => exact ⟨0, by omega, by go_num, by simp [span], by simpa [span, Hid] using unhide R2, B2⟩
                case round =>
                  clear R2 B2
                  obtain ⟨j, hj, rfl, rfl, hrw, hbl⟩ := hrel
                  obtain ⟨x, hx⟩ : ∃ x, x = a.toNat + j := ⟨_, rfl⟩
                  rw [← hx] at hj ⊢
                  have hLl : (T ++ span a.toNat j).length ≤ 268435712 := by rw [List.length_append, span_length]; omega
                  by_cases hxb : x ≤ a.toNat
                  · have hxb' : (x : Int) ≤ (a.toNat : Int) := by omega
                    have hx255 : (x : Int) ≤ 255 := by omega
                    have hsz2 := (unhide hbl).size
                    obtain ⟨c, hc⟩ : ∃ c, c = UInt8.ofNat x := ⟨_, rfl⟩
                    have hck : Hid ((x : Int) = (c.toNat : Int)) := by rw [hc]; simp [Hid]; omega
                    have hsn : Hid (T ++ span a.toNat (j + 1) = (T ++ span a.toNat j) ++ [c]) := by rw [span_snoc, hc, hx]; simp [Hid]
                    have htk := hide (take_more (T ++ span a.toNat j) c)
                    have hHX := hide hx
                    have hl65 : ((T ++ span a.toNat j).take 65536).length ≤ 65536 := by rw [List.length_take]; omega
                    obtain ⟨L, hL⟩ : ∃ L, L = T ++ span a.toNat j := ⟨_, rfl⟩
                    rw [← hL] at hrw hLl hsn htk hl65 ⊢
                    clear hL hc hx
                    obtain ⟨M, hM⟩ : ∃ M, M = L.take 65536 := ⟨_, rfl⟩
                    rw [← hM] at hrw htk hl65
                    have hlen : Hid ((L ++ [c]).length = L.length + 1) := by simp [Hid]
                    clear hM
                    by_cases hfit : L.length + 1 ≤ 65536
                    · have hfit' : (L.length : Int) + 1 ≤ 65536 := by omega
                      rw [if_pos hfit] at htk
                      obtain ⟨N, hN⟩ : ∃ N, N = L.length := ⟨_, rfl⟩
                      rw [← hN] at hfit' hlen hLl ⊢
                      clear hN hfit
                      go_wp2_with (at_builtin; refine wpList_append_own _ rfl _ _ 23 rfl w.heap.size 5 i0 (.int .u8 0) 1 1 Tryz.underlying23 hi hz0 hz1 hz2 rfl (by decide) _ _ _ rfl ((unhide hrw).alloc _) ⟨wr.heap.size, 0, none⟩ 1 1 [.int .u8 (x : Int)] rfl rfl (byte_new _ _ _) (byte_one _) (by unfold maxLen; omega) (by omega) (by simp; omega) ?_; intro v' w9 hown9 hg9 hnil9)
                      have hn : Hid (Row w.heap.size v' ((T ++ span a.toNat (j + 1)).take 65536) w9) := by rw [unhide hsn, unhide htk]; exact row_snoc hown9 (unhide hck)
                      have hB9 : Hid (Below w.heap.size w w9) := (unhide hbl).grown (grown_alloc hg9) hsz2 (row_lo (unhide hrw))
                      clear hown9 hg9 hnil9
                      go_roundw
                      case rel => exact ⟨j + 1, by have := unhide hHX; omega, by have := unhide hHX; go_num, by rw [unhide hsn, unhide hlen]; go_num, hn, hB9⟩
                      case measure => simp [intOf]; omega
                    · have hfit' : ¬ (L.length : Int) + 1 ≤ 65536 := by omega
                      rw [if_neg hfit] at htk
                      obtain ⟨N, hN⟩ : ∃ N, N = L.length := ⟨_, rfl⟩
                      rw [← hN] at hfit' hlen hLl ⊢
                      clear hN hfit
                      have hn : Hid (Row w.heap.size u4 ((T ++ span a.toNat (j + 1)).take 65536) wr) := by rw [unhide hsn, unhide htk]; exact unhide hrw
                      clear hrw
                      go_wp2_with fail
                      go_roundw
                      case rel => exact ⟨j + 1, by have := unhide hHX; omega, by have := unhide hHX; go_num, by rw [unhide hsn, unhide hlen]; go_num, hn, hbl⟩
                      case measure => simp [intOf]; omega
                  · have hxb' : ¬ (x : Int) ≤ (a.toNat : Int) := by omega
                    have hjj : j = a.toNat + 1 - a.toNat := by omega
                    rw [← hjj] at ADV2
                    have hll : (T ++ span a.toNat j).length ≤ 256 * k := by rw [List.length_append, span_length]; omega
                    generalize T ++ span a.toNat j = L at *
                    clear hjj hx
                    go_wp2_with fail
                    go_roundw
                    case rel => exact ⟨k, f, L, by omega, rfl, rfl, by omega, hll, ADV2, hrw, hbl⟩
                    case measure => simp [intOf]; omega
            · have t2 : ((s[k].toNat : Int) == 45) = false := by simp; omega
              have hgo : goesOn ((bs s).drop k) = false := by rw [unhide HG, dif_pos g1, decide_eq_false (u8_ne (b := 45) g2)]; rfl
              clear g2 HG
              have HX : Hid (thing ((bs s).drop i) = some (spanTo a a, (bs s).drop k)) := by rw [unhide TH, unhide RG, hgo]; exact rfl
              have hab : a.toNat ≤ a.toNat := Nat.le_refl _
              clear RG hgo
              have ADV2 := hide (unhide ADV _ _ (unhide HX))
              have hSP : Hid (spanTo a a = span a.toNat (a.toNat + 1 - a.toNat)) := rfl
              have hb255 := a.toNat_lt
              have hb255' : (a.toNat : Int) ≤ 255 := by omega
              rw [unhide hSP] at ADV2
              clear HX ADV BAD hSP TH
              go_wp2_with fail
              go_loopw [4, 5, 16] (fun u tv xv wq => ∃ j : Nat, a.toNat + j ≤ a.toNat + 1 ∧ xv = .int .i64 ((a.toNat + j : Nat) : Int) ∧ tv = .int .i64 ((T ++ span a.toNat j).length : Int) ∧ Hid (Row w.heap.size u ((T ++ span a.toNat j).take 65536) wq) ∧ Hid (Below w.heap.size w wq)) (fun _ _ xv _ => a.toNat + 1 - (intOf xv).toNat)
              case atStart => exact ⟨0, by omega, by go_num, by simp [span], by simpa [span, Hid] using unhide R2, B2⟩
              case round =>
                clear R2 B2
                obtain ⟨j, hj, rfl, rfl, hrw, hbl⟩ := hrel
                obtain ⟨x, hx⟩ : ∃ x, x = a.toNat + j := ⟨_, rfl⟩
                rw [← hx] at hj ⊢
                have hLl : (T ++ span a.toNat j).length ≤ 268435712 := by rw [List.length_append, span_length]; omega
                by_cases hxb : x ≤ a.toNat
                · have hxb' : (x : Int) ≤ (a.toNat : Int) := by omega
                  have hx255 : (x : Int) ≤ 255 := by omega
                  have hsz2 := (unhide hbl).size
                  obtain ⟨c, hc⟩ : ∃ c, c = UInt8.ofNat x := ⟨_, rfl⟩
                  have hck : Hid ((x : Int) = (c.toNat : Int)) := by rw [hc]; simp [Hid]; omega
                  have hsn : Hid (T ++ span a.toNat (j + 1) = (T ++ span a.toNat j) ++ [c]) := by rw [span_snoc, hc, hx]; simp [Hid]
                  have htk := hide (take_more (T ++ span a.toNat j) c)
                  have hHX := hide hx
                  have hl65 : ((T ++ span a.toNat j).take 65536).length ≤ 65536 := by rw [List.length_take]; omega
                  obtain ⟨L, hL⟩ : ∃ L, L = T ++ span a.toNat j := ⟨_, rfl⟩
                  rw [← hL] at hrw hLl hsn htk hl65 ⊢
                  clear hL hc hx
                  obtain ⟨M, hM⟩ : ∃ M, M = L.take 65536 := ⟨_, rfl⟩
                  rw [← hM] at hrw htk hl65
                  have hlen : Hid ((L ++ [c]).length = L.length + 1) := by simp [Hid]
                  clear hM
                  by_cases hfit : L.length + 1 ≤ 65536
                  · have hfit' : (L.length : Int) + 1 ≤ 65536 := by omega
                    rw [if_pos hfit] at htk
                    obtain ⟨N, hN⟩ : ∃ N, N = L.length := ⟨_, rfl⟩
                    rw [← hN] at hfit' hlen hLl ⊢
                    clear hN hfit
                    go_wp2_with (at_builtin; refine wpList_append_own _ rfl _ _ 23 rfl w.heap.size 5 i0 (.int .u8 0) 1 1 Tryz.underlying23 hi hz0 hz1 hz2 rfl (by decide) _ _ _ rfl ((unhide hrw).alloc _) ⟨wr.heap.size, 0, none⟩ 1 1 [.int .u8 (x : Int)] rfl rfl (byte_new _ _ _) (byte_one _) (by unfold maxLen; omega) (by omega) (by simp; omega) ?_; intro v' w9 hown9 hg9 hnil9)
                    have hn : Hid (Row w.heap.size v' ((T ++ span a.toNat (j + 1)).take 65536) w9) := by rw [unhide hsn, unhide htk]; exact row_snoc hown9 (unhide hck)
                    have hB9 : Hid (Below w.heap.size w w9) := (unhide hbl).grown (grown_alloc hg9) hsz2 (row_lo (unhide hrw))
                    clear hown9 hg9 hnil9
                    go_roundw
                    case rel => exact ⟨j + 1, by have := unhide hHX; omega, by have := unhide hHX; go_num, by rw [unhide hsn, unhide hlen]; go_num, hn, hB9⟩
                    case measure => simp [intOf]; omega
                  · have hfit' : ¬ (L.length : Int) + 1 ≤ 65536 := by omega
                    rw [if_neg hfit] at htk
                    obtain ⟨N, hN⟩ : ∃ N, N = L.length := ⟨_, rfl⟩
                    rw [← hN] at hfit' hlen hLl ⊢
                    clear hN hfit
                    have hn : Hid (Row w.heap.size u4 ((T ++ span a.toNat (j + 1)).take 65536) wr) := by rw [unhide hsn, unhide htk]; exact unhide hrw
                    clear hrw
                    go_wp2_with fail
                    go_roundw
                    case rel => exact ⟨j + 1, by have := unhide hHX; omega, by have := unhide hHX; go_num, by rw [unhide hsn, unhide hlen]; go_num, hn, hbl⟩
                    case measure => simp [intOf]; omega
                · have hxb' : ¬ (x : Int) ≤ (a.toNat : Int) := by omega
                  have hjj : j = a.toNat + 1 - a.toNat := by omega
                  rw [← hjj] at ADV2
                  have hll : (T ++ span a.toNat j).length ≤ 256 * k := by rw [List.length_append, span_length]; omega
                  generalize T ++ span a.toNat j = L at *
                  clear hjj hx
                  go_wp2_with fail
                  go_roundw
                  case rel => exact ⟨k, f, L, by omega, rfl, rfl, by omega, hll, ADV2, hrw, hbl⟩
                  case measure => simp [intOf]; omega
          · have g1' : ¬ (k : Int) + 1 < (s.size : Int) := by omega
            have hgo : goesOn ((bs s).drop k) = false := by rw [unhide HG, dif_neg g1]
            clear HG
            have HX : Hid (thing ((bs s).drop i) = some (spanTo a a, (bs s).drop k)) := by rw [unhide TH, unhide RG, hgo]; exact rfl
            have hab : a.toNat ≤ a.toNat := Nat.le_refl _
            clear RG hgo
            have ADV2 := hide (unhide ADV _ _ (unhide HX))
            have hSP : Hid (spanTo a a = span a.toNat (a.toNat + 1 - a.toNat)) := rfl
            have hb255 := a.toNat_lt
            have hb255' : (a.toNat : Int) ≤ 255 := by omega
            rw [unhide hSP] at ADV2
            clear HX ADV BAD hSP TH
            go_wp2_with fail
            go_loopw [4, 5, 16] (fun u tv xv wq => ∃ j : Nat, a.toNat + j ≤ a.toNat + 1 ∧ xv = .int .i64 ((a.toNat + j : Nat) : Int) ∧ tv = .int .i64 ((T ++ span a.toNat j).length : Int) ∧ Hid (Row w.heap.size u ((T ++ span a.toNat j).take 65536) wq) ∧ Hid (Below w.heap.size w wq)) (fun _ _ xv _ => a.toNat + 1 - (intOf xv).toNat)
            case atStart => exact ⟨0, by omega, by go_num, by simp [span], by simpa [span, Hid] using unhide R2, B2⟩
            case round =>
              clear R2 B2
              obtain ⟨j, hj, rfl, rfl, hrw, hbl⟩ := hrel
              obtain ⟨x, hx⟩ : ∃ x, x = a.toNat + j := ⟨_, rfl⟩
              rw [← hx] at hj ⊢
              have hLl : (T ++ span a.toNat j).length ≤ 268435712 := by rw [List.length_append, span_length]; omega
              by_cases hxb : x ≤ a.toNat
              · have hxb' : (x : Int) ≤ (a.toNat : Int) := by omega
                have hx255 : (x : Int) ≤ 255 := by omega
                have hsz2 := (unhide hbl).size
                obtain ⟨c, hc⟩ : ∃ c, c = UInt8.ofNat x := ⟨_, rfl⟩
                have hck : Hid ((x : Int) = (c.toNat : Int)) := by rw [hc]; simp [Hid]; omega
                have hsn : Hid (T ++ span a.toNat (j + 1) = (T ++ span a.toNat j) ++ [c]) := by rw [span_snoc, hc, hx]; simp [Hid]
                have htk := hide (take_more (T ++ span a.toNat j) c)
                have hHX := hide hx
                have hl65 : ((T ++ span a.toNat j).take 65536).length ≤ 65536 := by rw [List.length_take]; omega
                obtain ⟨L, hL⟩ : ∃ L, L = T ++ span a.toNat j := ⟨_, rfl⟩
                rw [← hL] at hrw hLl hsn htk hl65 ⊢
                clear hL hc hx
                obtain ⟨M, hM⟩ : ∃ M, M = L.take 65536 := ⟨_, rfl⟩
                rw [← hM] at hrw htk hl65
                have hlen : Hid ((L ++ [c]).length = L.length + 1) := by simp [Hid]
                clear hM
                by_cases hfit : L.length + 1 ≤ 65536
                · have hfit' : (L.length : Int) + 1 ≤ 65536 := by omega
                  rw [if_pos hfit] at htk
                  obtain ⟨N, hN⟩ : ∃ N, N = L.length := ⟨_, rfl⟩
                  rw [← hN] at hfit' hlen hLl ⊢
                  clear hN hfit
                  go_wp2_with (at_builtin; refine wpList_append_own _ rfl _ _ 23 rfl w.heap.size 5 i0 (.int .u8 0) 1 1 Tryz.underlying23 hi hz0 hz1 hz2 rfl (by decide) _ _ _ rfl ((unhide hrw).alloc _) ⟨wr.heap.size, 0, none⟩ 1 1 [.int .u8 (x : Int)] rfl rfl (byte_new _ _ _) (byte_one _) (by unfold maxLen; omega) (by omega) (by simp; omega) ?_; intro v' w9 hown9 hg9 hnil9)
                  have hn : Hid (Row w.heap.size v' ((T ++ span a.toNat (j + 1)).take 65536) w9) := by rw [unhide hsn, unhide htk]; exact row_snoc hown9 (unhide hck)
                  have hB9 : Hid (Below w.heap.size w w9) := (unhide hbl).grown (grown_alloc hg9) hsz2 (row_lo (unhide hrw))
                  clear hown9 hg9 hnil9
                  go_roundw
                  case rel => exact ⟨j + 1, by have := unhide hHX; omega, by have := unhide hHX; go_num, by rw [unhide hsn, unhide hlen]; go_num, hn, hB9⟩
                  case measure => simp [intOf]; omega
                · have hfit' : ¬ (L.length : Int) + 1 ≤ 65536 := by omega
                  rw [if_neg hfit] at htk
                  obtain ⟨N, hN⟩ : ∃ N, N = L.length := ⟨_, rfl⟩
                  rw [← hN] at hfit' hlen hLl ⊢
                  clear hN hfit
                  have hn : Hid (Row w.heap.size u4 ((T ++ span a.toNat (j + 1)).take 65536) wr) := by rw [unhide hsn, unhide htk]; exact unhide hrw
                  clear hrw
                  go_wp2_with fail
                  go_roundw
                  case rel => exact ⟨j + 1, by have := unhide hHX; omega, by have := unhide hHX; go_num, by rw [unhide hsn, unhide hlen]; go_num, hn, hbl⟩
                  case measure => simp [intOf]; omega
              · have hxb' : ¬ (x : Int) ≤ (a.toNat : Int) := by omega
                have hjj : j = a.toNat + 1 - a.toNat := by omega
                rw [← hjj] at ADV2
                have hll : (T ++ span a.toNat j).length ≤ 256 * k := by rw [List.length_append, span_length]; omega
                generalize T ++ span a.toNat j = L at *
                clear hjj hx
                go_wp2_with fail
                go_roundw
                case rel => exact ⟨k, f, L, by omega, rfl, rfl, by omega, hll, ADV2, hrw, hbl⟩
                case measure => simp [intOf]; omega
      · obtain ⟨n, r, hcut, hlen, hsplit⟩ := clsLen_pos hz
        have hLs := congrArg List.length hsplit
        rw [List.length_drop, bs_len] at hLs
        simp at hLs
        obtain ⟨m, hm⟩ : ∃ m, m = n.length := ⟨_, rfl⟩
        rw [← hm] at hlen hLs
        obtain ⟨K, hK⟩ : ∃ K, K = m + 4 := ⟨_, rfl⟩
        rw [hlen, ← hK] at C1
        have hdr : Hid (r = (bs s).drop (i + K)) := by
          rw [← List.drop_drop, hsplit, hK, hm]
          simp [Hid]
        have hdn : Hid (bs (s.extract (i + 2) (i + 2 + m)) = n) := by
          show _ = _
          rw [bs_ext, ← List.drop_drop, hsplit, hm]
          simp
        have TH : Hid (thing ((bs s).drop i) = match clsOf n with | none => none | some p => some (bytes.filter p, (bs s).drop (i + K))) := by
          show _ = _
          conv => lhs; unfold thing
          rw [hcut, unhide hdr]
          rfl
        have hiK : i + K ≤ s.size := by omega
        have hK4 : 4 ≤ K := by omega
        have k0 : 0 < K := by omega
        have k1 : (0 : Int) < (K : Int) := by omega
        have k2 : (i : Int) + 2 ≤ (i : Int) + (K : Int) - 2 := by omega
        have k3 : (i : Int) + (K : Int) - 2 ≤ (s.size : Int) := by omega
        have k4 : ((i : Int) + (K : Int) - 2).toNat = i + 2 + m := by omega
        have k5 : ((i : Int) + 2).toNat = i + 2 := by omega
        have k6 : (0 : Int) ≤ (i : Int) + 2 := by omega
        have HM := hide hm
        have HK := hide hK
        clear hz hcut hlen hsplit hLs hdr hm hK
        go_wp2_with fail
        refine (unhide C1).mono ?_
        rintro e w1 ⟨rfl, rfl⟩
        clear C1
        obtain ⟨X, hX⟩ : ∃ X, X = s.extract (i + 2) (i + 2 + m) := ⟨_, rfl⟩
        rw [← hX] at hdn
        have HX := hide hX
        clear hX
        go_wp2_with fail
        rw [← unhide HX]
        clear k2 k3 k4 k5 k6 HX
        cases hcl : clsOf n with
        | none =>
          have P := hide (unhide BAD (by rw [unhide TH, hcl]))
          have C : Hid (Calls Tryz.prog 13 #[.string X, .int .u8 0] w1 fun e w' => ClR none 0 e ∧ w' = w1) := by
            rw [← hcl, ← unhide hdn]; exact refClass_any X 0 w1
          clear BAD TH ADV hcl
          refine wp_loop_rounds 1 ?_
          rw [rounds_succ]
          go_wp2_with fail
          refine (unhide C).mono ?_
          rintro e w2 ⟨⟨_, rfl⟩ | ⟨p, hp, _⟩, rfl⟩
          · go_wp2_with fail
            go_ret2
            exact ⟨_, by rw [unhide P]; rfl, by rw [unhide P]; exact row_nil _ _, unhide hnx⟩
          · cases hp
        | some p =>
          have ADV2 := hide (unhide ADV (bytes.filter p) (i + K) (by rw [unhide TH, hcl]))
          have HC : Hid (∀ (c : UInt8) W, Calls Tryz.prog 13 #[.string X, .int .u8 (c.toNat : Int)] W fun e w' => e = .returned (.tuple #[.bool (p c), .bool true]) ∧ w' = W) := by
            intro c W
            refine (refClass_any X c W).mono ?_
            rintro e w' ⟨h, rfl⟩
            rw [unhide hdn, hcl] at h
            rcases h with ⟨h, _⟩ | ⟨q, hq, he⟩
            · cases h
            · cases hq; exact ⟨he, rfl⟩
          have R1 := hrow
          clear BAD TH ADV hcl hdn
          go_loopw [4, 5, 9] (fun u tv xv wq => ∃ j : Nat, j ≤ 256 ∧ xv = .int .i64 (j : Int) ∧ tv = .int .i64 ((T ++ (span 0 j).filter p).length : Int) ∧ Hid (Row w.heap.size u ((T ++ (span 0 j).filter p).take 65536) wq) ∧ Hid (Below w.heap.size w wq)) (fun _ _ xv _ => 256 - (intOf xv).toNat)
          case atStart => exact ⟨0, by omega, by go_num, by simp [span], by simpa [span, Hid] using unhide R1, hnx⟩
          case round =>
            clear R1 hrow hnx
            obtain ⟨j, hj, rfl, rfl, hrw, hbl⟩ := hrel
            have hLf : ((span 0 j).filter p).length ≤ 256 := Nat.le_trans (List.length_filter_le _ _) (by rw [span_length]; omega)
            have hLl : (T ++ (span 0 j).filter p).length ≤ 268435712 := by rw [List.length_append]; omega
            by_cases hxb : j < 256
            · have hxb' : (j : Int) < 256 := by omega
              have hx255 : (j : Int) ≤ 255 := by omega
              have hsz2 := (unhide hbl).size
              obtain ⟨c, hc⟩ : ∃ c, c = UInt8.ofNat j := ⟨_, rfl⟩
              have hck : (j : Int) = (c.toNat : Int) := by rw [hc]; simp; omega
              have hfl := filter_snoc p j
              rw [← hc] at hfl
              have C := hide (unhide HC c wr)
              rw [← hck] at C
              have HCK := hide hck
              have htk := hide (take_more (T ++ (span 0 j).filter p) c)
              have hl65 : ((T ++ (span 0 j).filter p).take 65536).length ≤ 65536 := by rw [List.length_take]; omega
              have hsn : Hid (T ++ (span 0 (j + 1)).filter p = (T ++ (span 0 j).filter p) ++ (if p c = true then [c] else [])) := by rw [hfl]; simp [Hid]
              obtain ⟨L, hL⟩ : ∃ L, L = T ++ (span 0 j).filter p := ⟨_, rfl⟩
              rw [← hL] at hrw hLl hsn htk hl65 ⊢
              clear hL hc hck hfl hLf
              obtain ⟨M, hM⟩ : ∃ M, M = L.take 65536 := ⟨_, rfl⟩
              have HM2 := hide hM
              rw [← hM] at hrw htk hl65
              have hlen : Hid ((L ++ [c]).length = L.length + 1) := by simp [Hid]
              clear hM
              cases hp : p c
              · rw [hp] at C hsn
                have hsn2 : Hid (T ++ (span 0 (j + 1)).filter p = L) := by rw [unhide hsn]; simp [Hid]
                have hn : Hid (Row w.heap.size u4 ((T ++ (span 0 (j + 1)).filter p).take 65536) wr) := by rw [unhide hsn2, ← unhide HM2]; exact unhide hrw
                clear hp hsn hrw
                go_wp2_with fail
                refine (unhide C).mono ?_
                rintro e w2 ⟨rfl, rfl⟩
                go_wp2_with fail
                go_roundw
                case rel => exact ⟨j + 1, by omega, by go_num, by rw [unhide hsn2], hn, hbl⟩
                case measure => simp [intOf]; omega
              · rw [hp] at C hsn
                clear hp
                have hsn2 : Hid (T ++ (span 0 (j + 1)).filter p = L ++ [c]) := by rw [unhide hsn]; simp [Hid]
                clear hsn
                by_cases hfit : L.length + 1 ≤ 65536
                · have hfit' : (L.length : Int) + 1 ≤ 65536 := by omega
                  rw [if_pos hfit] at htk
                  obtain ⟨N, hN⟩ : ∃ N, N = L.length := ⟨_, rfl⟩
                  rw [← hN] at hfit' hlen hLl ⊢
                  clear hN hfit
                  go_wp2_with fail
                  refine (unhide C).mono ?_
                  rintro e w2 ⟨rfl, rfl⟩
                  go_wp2_with (at_builtin; refine wpList_append_own _ rfl _ _ 23 rfl w.heap.size 5 i0 (.int .u8 0) 1 1 Tryz.underlying23 hi hz0 hz1 hz2 rfl (by decide) _ _ _ rfl ((unhide hrw).alloc _) ⟨w2.heap.size, 0, none⟩ 1 1 [.int .u8 (j : Int)] rfl rfl (byte_new _ _ _) (byte_one _) (by unfold maxLen; omega) (by omega) (by simp; omega) ?_; intro v' w9 hown9 hg9 hnil9)
                  have hn : Hid (Row w.heap.size v' ((T ++ (span 0 (j + 1)).filter p).take 65536) w9) := by rw [unhide hsn2, unhide htk]; exact row_snoc hown9 (unhide HCK)
                  have hB9 : Hid (Below w.heap.size w w9) := (unhide hbl).grown (grown_alloc hg9) hsz2 (row_lo (unhide hrw))
                  clear hown9 hg9 hnil9
                  go_roundw
                  case rel => exact ⟨j + 1, by omega, by go_num, by rw [unhide hsn2, unhide hlen]; go_num, hn, hB9⟩
                  case measure => simp [intOf]; omega
                · have hfit' : ¬ (L.length : Int) + 1 ≤ 65536 := by omega
                  rw [if_neg hfit] at htk
                  obtain ⟨N, hN⟩ : ∃ N, N = L.length := ⟨_, rfl⟩
                  rw [← hN] at hfit' hlen hLl ⊢
                  clear hN hfit
                  have hn : Hid (Row w.heap.size u4 ((T ++ (span 0 (j + 1)).filter p).take 65536) wr) := by rw [unhide hsn2, unhide htk]; exact unhide hrw
                  clear hrw hl65 htk HM2
                  go_wp2_with fail
                  refine (unhide C).mono ?_
                  rintro e w2 ⟨rfl, rfl⟩
                  have hfit2 : decide ((N : Int) + 1 ≤ 65536) = false := decide_eq_false (by omega)
                  clear C hfit'
                  go_wp2_with fail
                  go_roundw
                  case rel => exact ⟨j + 1, by omega, by go_num, by rw [unhide hsn2, unhide hlen]; go_num, hn, hbl⟩
                  case measure => simp [intOf]; omega
            · have hxb' : ¬ (j : Int) < 256 := by omega
              have hj256 : j = 256 := by omega
              have hfa : Hid ((span 0 j).filter p = bytes.filter p) := by rw [hj256]; exact rfl
              rw [← unhide hfa] at ADV2
              have hll : (T ++ (span 0 j).filter p).length ≤ 256 * (i + K) := by rw [List.length_append]; omega
              generalize T ++ (span 0 j).filter p = L at *
              clear hj256 hfa hLf
              go_wp2_with fail
              go_roundw
              case rel => exact ⟨i + K, f, L, hiK, by go_num, rfl, by omega, hll, ADV2, hrw, hbl⟩
              case measure => simp [intOf]; omega
    · have hTT : Hid (told (bs s) = some T) := by rw [unhide hT, bs_end s i (by omega)]; cases f <;> simp [tell, Hid]
      by_cases hlong : 65536 < T.length
      · have P := hide (unhide PL T (unhide hTT) hlong)
        have hlong' : (65536 : Int) < (T.length : Int) := by omega
        clear hT hTT
        go_wp2_with fail
        go_ret2
        exact ⟨_, by rw [unhide P]; rfl, by rw [unhide P]; exact row_nil _ _, unhide hnx⟩
      · have P := hide (unhide PO T (unhide hTT) (by omega))
        have hlong' : ¬ (65536 : Int) < (T.length : Int) := by omega
        rw [List.take_of_length_le (by omega)] at hrow
        clear hT hTT
        go_wp2_with fail
        go_ret2
        exact ⟨_, by rw [unhide P]; rfl, by rw [unhide P]; exact unhide hrow, unhide hnx⟩
end Go.Proofs.YtjgboecifonjdaaGreatDoor.Se
