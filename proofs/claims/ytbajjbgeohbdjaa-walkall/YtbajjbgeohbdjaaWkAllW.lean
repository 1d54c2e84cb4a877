/- WalkAll: the law, walked. -/
import Derived.Test.YtbajjbgeohbdjaaWkAllS
import Derived.Test.YtbajjbgeohbdjaaWkLives
import Derived.Test.YtbajjbgeohbdjaaWkGreat
namespace Go.Proofs.Ytbajjbgeohbdjaa.Wk
open Go.RowKit Go.Proofs.Ytbajjbgeohbdjaa.Cu Go.Proofs.Ytbajjbgeohbdjaa.Tr Go.Proofs.Ytbajjbgeohbdjaa.Pm Go.Proofs.Ytbajjbgeohbdjaa.Pt

theorem st_in {l : List Sp} {k : Nat} (h : k < l.length) : st l k ∈ l := by
  have : st l k = l[k] := by simp [st, List.getD, List.getElem?_eq_getElem h]
  rw [this]; exact List.getElem_mem h
/-- how often each was come to, on the way -/
structure Ti (w3 : World) (n : Nat) (T : List Nat) (X : World) : Prop where
  below : Below w3.heap.size w3 X
  row : Li X w3.heap.size n T
theorem Ti.put {w3 : World} {n k : Nat} {T : List Nat} {X : World} (h : Ti w3 n T X) (hs : T.count k ≤ 1000000) : Ti w3 n (k :: T) (X.setCell ⟨w3.heap.size, k, none⟩ (.int .i64 ((T.count k : Int) + 1))) := by
  refine ⟨h.below.setCell (p := ⟨w3.heap.size, k, none⟩) (Nat.le_refl _) _, ?_⟩
  unfold Li
  rw [heap_setCell_same _ _ _ _ _ _ h.row, ← lv_set, wr_small _ (by omega)]
  simp
theorem all_ok {now : Int} {ns : List Nd} (hc : checkP now ns = true) : ∀ s ∈ wkP ns eR 33 34 0 rtP 1, Ok s := by
  obtain ⟨a1, aN, _, a2, _⟩ := checkP_parts hc
  have hh := hung_check hc
  have hin := in_start hc (n := 1) (by omega) (by omega) (by rw [a2]; decide)
  intro s hs
  have h1 := wk_path hc eR 33 3000 (d := 0) (p := rtP) hin (by decide) s hs
  obtain ⟨k, b1, _, b2, _⟩ := wk_in hh eR 33 (d := 0) (p := rtP) hin s hs
  have h2 := wk_all hh eR 33 (fun f d _ _ => d + f ≤ 34) (fun s => 0 ≤ s.depth ∧ s.depth ≤ 34) (fun f d p n _ hq => ⟨⟨by show (0 : Int) ≤ (d : Int); omega, by show (d : Int) ≤ 34; omega⟩, fun _ => ⟨by show (0 : Int) ≤ (d : Int); omega, by show (d : Int) ≤ 34; omega⟩⟩) (fun f d p n x _ hq _ _ => by show d + 1 + f ≤ 34; omega) 34 0 rtP 1 hin (by decide) s hs
  refine ⟨by unfold maxLen; omega, ?_, ?_⟩
  · simp [Lit.wf, IntKind.min, IntKind.max, IntKind.signed, IntKind.bits]; omega
  · simp [Lit.wf, IntKind.min, IntKind.max, IntKind.signed, IntKind.bits]; omega
theorem lks_le {now : Int} {ns : List Nd} (hc : checkP now ns = true) : ∀ k, k ≤ ns.length → lksP ns k ≤ k * 66560 := by
  intro k
  induction k with
  | zero => intro _; exact Nat.le_refl _
  | succ k ih =>
    intro hk
    have h1 := ih (by omega)
    have h2 := sz_le hc (k : Int)
    unfold nodeAt at h2
    rw [if_neg (by omega)] at h2
    unfold szP at h2
    rw [Int.toNat_natCast] at h2
    unfold lksP at h1 ⊢
    rw [sumTo_succ]
    omega
theorem lks_one {now : Int} {ns : List Nd} (hc : checkP now ns = true) : lksP ns 1 = 0 := by
  obtain ⟨a1, _, a0, _, _, a3, _⟩ := checkP_parts hc
  have h1 := a3 0 (by omega)
  unfold kindP at h1
  rw [if_pos a0] at h1
  unfold freeP emptyB at h1
  simp only [Bool.and_eq_true, decide_eq_true_eq] at h1
  unfold lksP
  rw [sumTo_succ]
  show 0 + _ = 0
  omega
theorem bytes_le {now : Int} {ns : List Nd} (hc : checkP now ns = true) : bytesP ns ns.length ≤ 1048576 := by
  unfold checkP limitsP at hc
  simp only [Bool.and_eq_true, decide_eq_true_eq] at hc
  omega
set_option maxRecDepth 100000 in
set_option maxHeartbeats 4000000 in
theorem all_walk (a : Option Addr) (n cap : Nat) (ns : List Nd) (now : Int) (w : World) (hg : Ng w a n cap ns) (hn : n ≤ 281474976710656) (hr : ∀ i, i < n → Rb (nd ns i)) :
    Calls Try.prog 4 #[.agg #[.slice a n cap, .int .i64 now]] w fun r w' => r = .returned (.bool true) ∧ Below w.heap.size w w' := by
  obtain ⟨W1, hW1⟩ : ∃ W1, W1 = w.alloc (.cells #[.slice a n cap, .int .i64 now] 24) := ⟨_, rfl⟩
  have hb1 : Below w.heap.size w W1 := by rw [hW1]; exact (Below.refl _ _).alloc (Nat.le_refl _) _
  have hx1 : W1.heap[w.heap.size]? = some (.cells #[.slice a n cap, .int .i64 now] 24) := by rw [hW1]; exact heap_alloc_new _ _
  have HQ := hide (wgreat_any a n cap ns now ⟨0, 0, 0, 0⟩ ⟨#[]⟩ 0 W1 (hg.below hb1) hn hr)
  have HB1 := hide hb1
  have HX1 := hide hx1
  have HG := hide hg
  have HLv := hide lives_any
  have look : ∀ W : World, W.heap[w.heap.size]? = some (.cells #[.slice a n cap, .int .i64 now] 24) → W.cell? ⟨w.heap.size, 0, none⟩ = some (.slice a n cap) ∧ W.cell? ⟨w.heap.size, 1, none⟩ = some (.int .i64 now) := fun W h => by
    refine ⟨?_, ?_⟩ <;> (rw [cell_of_row _ _ _ _ _ _ h]; rfl)
  have HLk := hide look
  clear hg hr hb1 hx1 look
  go_enter Try.func4, Try.ntmps4
  go_upto_region 1 with fail
  rw [← hW1]
  clear hW1
  obtain ⟨c0, c1⟩ := unhide HLk W1 (unhide HX1)
  go_wp2_with fail
  refine (unhide HQ).mono ?_
  rintro r w2 ⟨⟨q, rfl, hq⟩, b2⟩
  have HB2 := hide ((unhide HB1).trans (b2.mono (unhide HB1).size))
  have HX2 := hide ((b2.block _ (Array.getElem?_eq_some_iff.1 (unhide HX1)).1).trans (unhide HX1))
  clear c0 c1 b2 HQ HB1 HX1
  cases q with
  | true =>
    clear hq
    go_wp2_with fail
    refine (unhide HLv w2).mono ?_
    rintro r w3 ⟨rfl, b3⟩
    have HB3 := hide ((unhide HB2).trans (b3.mono (unhide HB2).size))
    clear b3
    go_wp2
    go_ret
    exact ⟨rfl, unhide HB3⟩
  | false =>
  obtain ⟨hq1, hq2⟩ := hq rfl
  have hs := sm_of_size hq1
  have HS := hide hs
  have HC := hide (checkAny now ((unhide HG).below (unhide HB2)) hs)
  obtain ⟨c0, c1⟩ := unhide HLk w2 (unhide HX2)
  have hnl := (unhide HG).len
  clear hq hq1 hq2 hs
  go_wp2_with fail
  refine (unhide HC).mono ?_
  rintro r w3 ⟨rfl, b3⟩
  have HB3 := hide ((unhide HB2).trans (b3.mono (unhide HB2).size))
  have HX3 := hide ((b3.block _ (Array.getElem?_eq_some_iff.1 (unhide HX2)).1).trans (unhide HX2))
  clear c0 c1 b3 HB2 HX2 HC
  cases hc : checkP now ns with
  | false =>
    clear hc
    go_wp2_with fail
    refine (unhide HLv w3).mono ?_
    rintro r w4 ⟨rfl, b4⟩
    have HB4 := hide ((unhide HB3).trans (b4.mono (unhide HB3).size))
    clear b4
    go_wp2
    go_ret
    exact ⟨rfl, unhide HB4⟩
  | true =>
  have HCk := hide hc
  have HW := hide (walk_any now a n cap ns eR rtP 33 w3 ((unhide HG).below (unhide HB3)) (unhide HS) (by decide))
  rw [walk_root hc] at HW
  obtain ⟨L, hL⟩ : ∃ L, L = wkP ns eR 33 34 0 rtP 1 := ⟨_, rfl⟩
  obtain ⟨a1, aN, _, a2, _⟩ := checkP_parts hc
  have hin := in_start hc (n := 1) (by omega) (by omega) (by rw [a2]; decide)
  have hlen := wk_len hc eR 33 (d := 0) (p := rtP) hin
  have HIn := hide (fun q hq => wk_in (hung_check hc) eR 33 (d := 0) (p := rtP) hin q hq)
  have HWt := hide (fun z (h0 : 0 < z) (hz : z < ns.length) => cnt_want hc h0 hz)
  have HLa := hide (last_all hc)
  have HOk := hide (all_ok hc)
  have HZ : Hid (sizesP now ns L = (szAll ns ⟨0, [], []⟩ L).1) := by show _ = _; unfold sizesP; rw [hc]; rfl
  have HSV : Hid (sizesV now ns = .tuple #[.int .i64 (nodesN ns ns.length), .int .i64 (bytesP ns ns.length)]) := by show _ = _; unfold sizesV; rw [hc]; rfl
  have HL1 := hide (lks_one hc)
  have HLe := hide (lks_le hc)
  have hby := bytes_le hc
  simp only at HW
  rw [← hL] at HW hlen HIn HWt HLa HOk
  clear hL hin a2 hc
  obtain ⟨c0, c1⟩ := unhide HLk w3 (unhide HX3)
  go_wp2_with fail
  refine (unhide HW).mono ?_
  rintro r w4 ⟨v1, v2, rfl, hr1, hr2, b4⟩
  obtain ⟨al, k1, rfl, hs1⟩ := sg_of_row hr1
  obtain ⟨g4, k4, rfl⟩ : ∃ g c, v2 = .slice g 0 c := by
    rcases hr2.2 with ⟨h, _⟩ | ⟨g, c, _, h, _⟩
    · exact ⟨none, 0, h⟩
    · exact ⟨_, c, h⟩
  have HB4 := hide ((unhide HB3).trans (b4.mono (unhide HB3).size))
  have HX4 := hide ((b4.block _ (Array.getElem?_eq_some_iff.1 (unhide HX3)).1).trans (unhide HX3))
  have HS4 := hide hs1
  clear c0 c1 b4 HW HB3 HX3 hr1 hr2 hs1
  obtain ⟨c0, c1⟩ := unhide HLk w4 (unhide HX4)
  have hmk := made_int n (by omega)
  obtain ⟨W5, hW5⟩ : ∃ W5, W5 = w4.alloc (.cells (lv n []) 3) := ⟨_, rfl⟩
  have HT0 : Hid (Ti w4 n (vsL (L.take 0)).reverse W5) := by
    refine ⟨?_, ?_⟩
    · rw [hW5]; exact (Below.refl _ _).alloc (Nat.le_refl _) _
    · unfold Li; rw [hW5]; exact heap_alloc_new _ _
  go_upto_region 7 with fail
  rw [← hW5]
  clear hW5 hmk c0 c1
  go_wp2_with fail
  go_loopw [7] (fun i wr => ∃ k : Nat, k ≤ L.length ∧ i = .int .i64 k ∧ Hid (Ti w4 n (vsL (L.take k)).reverse wr)) (fun i _ => L.length - (intOf i).toNat)
  case atStart => exact ⟨0, Nat.zero_le _, rfl, HT0⟩
  case round =>
    clear HT0
    obtain ⟨k, hk, rfl, hT⟩ := hrel
    by_cases hlt : k < L.length
    · have hlt' : (k : Int) < (L.length : Int) := by omega
      have hb := (unhide hT).below
      have hrow := (unhide hT).row
      obtain ⟨kn, hkn, hkp, hkl, hk0, hka, dn, hdn⟩ := unhide HIn _ (st_in hlt)
      have h4 : ∃ b off, al = some ⟨b, off, none⟩ ∧ b < wr.heap.size ∧ E4 wr b (off + k * 4) (st L k) := by
        rcases ((unhide HS4).below hb).cells with h0 | ⟨b, off, h1, h2, h3⟩
        · omega
        · exact ⟨b, off, h1, h2, h3 k hlt⟩
      obtain ⟨b, off, rfl, hbr, h4⟩ := h4
      have htk : L.take (k + 1) = L.take k ++ [st L k] := by
        rw [List.take_succ_eq_append_getElem hlt]; simp [st, List.getD, List.getElem?_eq_getElem hlt]
      have hvs : vsL (L.take (k + 1)) = vsL (L.take k) ++ vsL [st L k] := by rw [htk, vsL_app]
      generalize st L k = S0 at *
      obtain ⟨sp, sn, sd, sf⟩ := S0
      simp only at hkn hdn hka
      subst hkn hdn
      obtain ⟨q0, q1, q2, q3⟩ := h4
      simp only at q0 q1 q2 q3
      have hkn' : (kn : Int) < (n : Int) := by omega
      have hnk : kn < n := by omega
      cases sf with
      | true =>
        have hvs2 : vsL (L.take (k + 1)) = vsL (L.take k) := by rw [hvs, vsL_after, List.append_nil]
        have HV := hide hvs2
        clear hvs hvs2 htk hb hrow hka
        go_wp2_with fail
        go_roundw
        case rel => exact ⟨k + 1, by omega, by go_num, by rw [unhide HV]; exact hT⟩
        case measure => simp [intOf]; omega
      | false =>
        have hvs2 : (vsL (L.take (k + 1))).reverse = kn :: (vsL (L.take k)).reverse := by rw [hvs, vsL_one]; simp
        have HV := hide hvs2
        have hct : (vsL (L.take k)).reverse.count kn ≤ 5000 := by
          refine Nat.le_trans List.count_le_length ?_
          rw [List.length_reverse]
          unfold vsL
          rw [List.length_map]
          refine Nat.le_trans (List.length_filter_le _ _) ?_
          rw [List.length_take]; omega
        have z0 := hrow.cell kn hnk
        have z1 := hrow.frozen kn
        have hzl : w4.heap.size < wr.heap.size := (Array.getElem?_eq_some_iff.1 hrow).1
        rw [wr_small _ (by omega)] at z0
        have HP := hide ((unhide hT).put (k := kn) (by omega))
        generalize (vsL (L.take k)).reverse = T at *
        obtain ⟨ct, hct2⟩ : ∃ ct, ct = T.count kn := ⟨_, rfl⟩
        rw [← hct2] at z0 hct HP
        clear hvs hvs2 htk hb hrow hka hct2
        have hct3 : (ct : Int) ≤ 5000 := by omega
        have hwp : IntKind.i64.wrap ((ct : Int) + 1) = (ct : Int) + 1 := by rw [IntWalk.i64_left]; unfold wrap64; omega
        go_wp2_with fail
        go_roundw
        case rel => exact ⟨k + 1, by omega, by go_num, by rw [unhide HV]; exact HP⟩
        case measure => simp [intOf]; omega
    · obtain rfl : k = L.length := by omega
      rw [List.take_length] at hT
      obtain ⟨T, hTe⟩ : ∃ T, T = (vsL L).reverse := ⟨_, rfl⟩
      have HCt : Hid (∀ z, 0 < z → z < ns.length → ((T.count z : Nat) : Int) = if (nd ns z).kind = 2 then 1 else (nd ns z).links) := fun z h0 hz => by rw [hTe, List.count_reverse]; exact unhide HWt z h0 hz
      have HCb : Hid (∀ z, T.count z ≤ 5000) := fun z => by
        refine Nat.le_trans List.count_le_length ?_
        rw [hTe, List.length_reverse]
        unfold vsL
        rw [List.length_map]
        exact Nat.le_trans (List.length_filter_le _ _) (by omega)
      rw [← hTe] at hT
      have hb := (unhide hT).below
      have HR := hide (unhide hT).row
      have HB5 := hide ((unhide HB4).trans (hb.mono (unhide HB4).size))
      have HX5 := hide ((hb.block _ (Array.getElem?_eq_some_iff.1 (unhide HX4)).1).trans (unhide HX4))
      have HS5 := hide ((unhide HS4).below hb)
      have HG5 := hide ((unhide HG).below (unhide HB5))
      obtain ⟨c0, c1⟩ := unhide HLk wr (unhide HX5)
      have hl1 := unhide HL1
      obtain ⟨tq, htq⟩ : ∃ tq : Int, tq = 0 := ⟨_, rfl⟩
      clear hTe hT hb HWt HX4 HS4 HIn
      go_wp2_with fail
      go_loopw [8, 9, 10] (fun v8 v9 _ wy => ∃ k : Nat, 1 ≤ k ∧ k ≤ n ∧ v9 = .int .i64 k ∧ v8 = .int .i64 (lksP ns k) ∧ wr = wy) (fun _ v9 _ _ => n - (intOf v9).toNat)
      case atStart => exact ⟨1, Nat.le_refl _, by omega, rfl, by rw [hl1]; rfl, rfl⟩
      case round =>
        obtain ⟨k, hk1, hkn, rfl, rfl, rfl⟩ := hrel
        by_cases hlt2 : k < n
        · have hlt2' : (k : Int) < (n : Int) := by omega
          rcases (unhide HG5).cells with h0 | ⟨tb, tof, rfl, htb, htc⟩
          · omega
          obtain ⟨_, _, _, _, h10, -, -⟩ := htc k hlt2
          have t0 := h10.c0
          have t4 := h10.c4
          have t7 := h10.c7
          have z0 := (unhide HR).cell k hlt2
          have hcb := unhide HCb k
          rw [wr_small _ (by omega)] at z0
          have hct := unhide HCt k (by omega) (by omega)
          rw [hct] at z0
          have hzl : w4.heap.size < wr.heap.size := (Array.getElem?_eq_some_iff.1 (unhide HR)).1
          have hsum : lksP ns (k + 1) = lksP ns k + (nd ns k).target.size := by unfold lksP; rw [sumTo_succ]
          have hle1 := unhide HLe k (by omega)
          have hle2 := unhide HLe (k + 1) (by omega)
          have hle3 : (lksP ns (k + 1) : Int) ≤ 40000000 := by omega
          obtain ⟨s1, hs1⟩ : ∃ s1, s1 = lksP ns k := ⟨_, rfl⟩
          obtain ⟨s2, hs2⟩ : ∃ s2, s2 = lksP ns (k + 1) := ⟨_, rfl⟩
          rw [← hs1, ← hs2] at hsum
          rw [← hs1] at hle1 ⊢
          rw [← hs2] at hle2 hle3
          have HS2 := hide hs2
          obtain ⟨tg, htg⟩ : ∃ tg, tg = (nd ns k).target := ⟨_, rfl⟩
          obtain ⟨lk, hlk⟩ : ∃ lk, lk = (nd ns k).links := ⟨_, rfl⟩
          rw [← htg] at hsum t7
          rw [← hlk] at t4 z0
          have hwp : IntKind.i64.wrap ((s1 : Int) + (tg.size : Int)) = (s2 : Int) := by rw [IntWalk.i64_left]; unfold wrap64; omega
          have HWq : Hid ((s1 : Int) + (tg.size : Int) = (s2 : Int)) := by show _ = _; omega
          clear h10 htc hct hcb hs1 hs2 htg hlk
          by_cases hk2 : (nd ns k).kind = 2
          · rw [if_pos hk2] at z0
            rw [hk2] at t0
            have t0' : wr.cell? ⟨tb, tof + k * 10, none⟩ = some (.int .u8 2) := t0
            clear hk2 t0
            go_wp2_with fail
            go_roundw
            case rel => exact ⟨k + 1, by omega, by omega, by go_num, by rw [← unhide HS2, unhide HWq], trivial⟩
            case measure => simp [intOf]; omega
          · rw [if_neg hk2] at z0
            have hk3 : (((nd ns k).kind.toNat : Int) == 2) = false := by
              rw [beq_eq_false_iff_ne]
              exact fun e => hk2 (UInt8.toNat_inj.1 (by show _ = 2; omega))
            have hk4 : ¬ ((nd ns k).kind.toNat : Int) = 2 := fun e => hk2 (UInt8.toNat_inj.1 (by show _ = 2; omega))
            have hlq : (lk != lk) = false := by simp
            generalize (nd ns k).kind.toNat = kd at *
            clear hk2
            go_wp2_with fail
            go_roundw
            case rel => exact ⟨k + 1, by omega, by omega, by go_num, by rw [← unhide HS2, unhide HWq], trivial⟩
            case measure => simp [intOf]; omega
        · obtain rfl : k = n := by omega
          obtain ⟨m, hm⟩ : ∃ m, L.length = m + 1 := by
            obtain ⟨r, hr⟩ := unhide HLa
            have := congrArg List.length hr
            rw [szAll_len, List.length_append] at this
            exact ⟨r.length, this⟩
          rw [hm]
          have hlen2 : m + 1 ≤ 4098 := by omega
          have HS5' : Hid (Sg wr al (m + 1) k1 L) := by have := unhide HS5; rw [hm] at this; exact this
          have HM := hide hm
          clear hm
          have hle1 := unhide HLe k (by omega)
          obtain ⟨s1, hs1⟩ : ∃ s1, s1 = lksP ns k := ⟨_, rfl⟩
          have HS1 := hide hs1
          rw [← hs1] at hle1 ⊢
          have HSz := hide (sizes_any a k cap ns now wr (unhide HG5) (unhide HS))
          rw [unhide HSV] at HSz
          clear hs1 hk1 hkn hlt2 hlt
          go_wp2_with fail
          refine (unhide HSz).mono ?_
          rintro r w6 ⟨rfl, b6⟩
          have HB6 := hide ((unhide HB5).trans (b6.mono (unhide HB5).size))
          have HX6 := hide ((b6.block _ (Array.getElem?_eq_some_iff.1 (unhide HX5)).1).trans (unhide HX5))
          have HS6 := hide ((unhide HS5').below b6)
          have HZs := hide (sizesW_any now a k cap ns al (m + 1) k1 L w6 ((unhide HG).below (unhide HB6)) (unhide HS) (unhide HS6) (by omega) (unhide HOk))
          rw [unhide HZ] at HZs
          clear c0 c1 b6 HB5 HX5 HS5 HS5' HSz HR HG5
          obtain ⟨c0, c1⟩ := unhide HLk w6 (unhide HX6)
          go_wp2_with fail
          refine (unhide HZs).mono ?_
          rintro r w7 ⟨z, rfl, hz, hzo, b7⟩
          have HB7 := hide ((unhide HB6).trans (b7.mono (unhide HB6).size))
          obtain ⟨r, hr⟩ := unhide HLa
          rw [hr] at hzo
          have hrl : r.length = m := by
            have := congrArg List.length hr
            rw [szAll_len, List.length_append, unhide HM] at this
            simp at this
            omega
          have z0 : w7.cell? ⟨z, m, none⟩ = some (.int .i64 ((bytesP ns ns.length + lksP ns ns.length : Nat) : Int)) := by
            rw [cell_of_row _ _ _ _ _ _ hzo, ← hrl]
            exact iv_get r [] _
          rw [hnl, ← unhide HS1] at z0
          rw [hnl] at hby
          have hzl : z < w7.heap.size := (Array.getElem?_eq_some_iff.1 hzo).1
          have g1 : IntKind.i64.wrap ((m : Int) + 1 - 1) = (m : Int) := by rw [IntWalk.i64_left]; unfold wrap64; omega
          have g4 : IntKind.i64.wrap (m : Int) = (m : Int) := by rw [IntWalk.i64_left]; unfold wrap64; omega
          generalize bytesP ns k = bs1 at *
          have hk5 : k ≤ 513 := by omega
          have hs3 : (s1 : Int) ≤ 40000000 := by omega
          have g2 : IntKind.i64.wrap ((bs1 : Int) + (s1 : Int)) = (bs1 : Int) + (s1 : Int) := by rw [IntWalk.i64_left]; unfold wrap64; omega
          rw [show ((bs1 + s1 : Nat) : Int) = (bs1 : Int) + (s1 : Int) by omega] at z0
          have hlm : (m : Int) < (m : Int) + 1 := by omega
          clear b7 hzo hr hrl HZs HB6 HX6 HS6 c0 c1
          go_wp2_with fail
          refine (unhide HLv w7).mono ?_
          rintro r w8 ⟨rfl, b8⟩
          have HB8 := hide ((unhide HB7).trans (b8.mono (unhide HB7).size))
          clear b8
          go_wp2
          go_ret
          exact ⟨rfl, unhide HB8⟩
end Go.Proofs.Ytbajjbgeohbdjaa.Wk
