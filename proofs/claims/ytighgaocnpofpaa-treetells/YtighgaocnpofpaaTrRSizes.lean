/- What the document's Sizes, dir and Depth answer. -/
import Derived.Test.YtighgaocnpofpaaTrRck
import Derived.Test.YtighgaocnpofpaaTrStat
import Derived.Test.YtighgaocnpofpaaTrPathsP
import Derived.Test.YtighgaocnpofpaaTrPathW
namespace Go.Proofs.Ytighgaocnpofpaa.Tr
open Go.RowKit Go.Proofs.Ytighgaocnpofpaa.Cu

set_option maxRecDepth 100000 in
set_option maxHeartbeats 1000000 in
theorem rsizes_any (a : Option Addr) (n cap : Nat) (ns : List Nd) (now : Int) (w : World) (h : Ng w a n cap ns) (hs : Sm ns) (hr : ∀ i, i < n → Rb (nd ns i)) :
    Calls Try.prog 17 #[.agg #[.slice a n cap, .int .i64 now]] w fun e w' => e = .returned (sizesV now ns) ∧ Below w.heap.size w w' := by
  have HC : Hid (∀ W, Below w.heap.size w W → Calls Try.prog 10 #[.agg #[.slice a n cap, .int .i64 now]] W fun e w' => e = .returned (.bool (checkP now ns)) ∧ Below W.heap.size W w') := fun W hW => rcheckAny now (h.below hW) hs hr
  have hlen := h.len
  have hQ : Hid (checkP now ns = true → 2 ≤ n) := fun q => by rw [← hlen]; exact checkP_two q
  have HM1 : Hid (∀ k, k ≤ n → bytesP ns k ≤ 1000000000) := fun k hk => Nat.le_trans (bytesP_mono ns k (by rw [h.len]; exact hk)) hs.hby
  have hn : n ≤ 1000000 := by rw [← hlen]; exact hs.hn
  unfold sizesV
  rw [hlen]
  have HL := hide hlen
  clear hlen hs hr
  have HG := hide h
  clear h
  generalize checkP now ns = q at *
  have hb0 : Hid (Below w.heap.size w (w.alloc (.cells #[.slice a n cap, .int .i64 now] 24))) := (Below.refl _ _).alloc (Nat.le_refl _) _
  cases q with
  | false =>
    simp only [Bool.false_eq_true, if_false]
    go_enter Try.func17, Try.ntmps17
    go_wp2_with fail
    refine (unhide HC _ (unhide hb0)).mono ?_
    rintro e w1 ⟨rfl, b1⟩
    have hB := hide (box_keep b1).2.1
    clear b1 HC HG
    go_wp2
    go_ret2
    exact ⟨rfl, unhide hB⟩
  | true =>
    simp only [if_true]
    have h2 := unhide hQ rfl
    rcases (unhide HG).cells with h0 | ⟨b, off, rfl, hb, hc⟩
    · omega
    have HX := hide hc
    clear hc HG
    go_enter Try.func17, Try.ntmps17
    go_wp2_with fail
    refine (unhide HC _ (unhide hb0)).mono ?_
    rintro e w1 ⟨rfl, b1⟩
    have hB := hide (box_keep b1).2.1
    have c0 : w1.cell? ⟨w.heap.size, 0, none⟩ = some (.slice (some ⟨b, off, none⟩) n cap) := by rw [cell_of_row _ _ _ _ _ _ (box_keep b1).1]; rfl
    clear b1 HC
    go_wp2
    go_loopw [4, 5, 6] (fun x y i wr => ∃ k : Nat, k ≤ n ∧ x = .int .i64 (nodesN ns k) ∧ y = .int .i64 (bytesP ns k) ∧ i = .int .i64 k ∧ wr = w1) (fun _ _ i _ => n - (intOf i).toNat)
    case atStart => exact ⟨0, Nat.zero_le _, rfl, rfl, rfl, rfl⟩
    case round =>
      obtain ⟨k, hk, rfl, rfl, rfl, rfl⟩ := hrel
      by_cases hlt : k < n
      · have hlt' : (k : Int) < (n : Int) := by omega
        obtain ⟨da, dc, la, lc, h10, -, -⟩ := (unhide HX k hlt).below hb (unhide hB)
        have s1 := hide (bytesP_succ ns k (by rw [unhide HL]; exact hlt))
        have s2 := hide (nodesN_succ ns k (by rw [unhide HL]; exact hlt))
        have m1 := unhide HM1 (k + 1) (by omega)
        have m2 := nodesN_le ns k
        rw [unhide s1] at m1
        generalize bytesP ns k = x at *
        generalize nodesN ns k = y at *
        generalize nd ns k = m at *
        obtain ⟨dl, hdl⟩ : ∃ dl, m.data.length = dl := ⟨_, rfl⟩
        rw [hdl] at h10
        rw [hdl] at s1 m1
        have d0 := h10.c0
        have d6 := h10.c6
        clear h10 hdl
        obtain ⟨kd, hkd⟩ : ∃ kd, kd = m.kind := ⟨_, rfl⟩
        rw [← hkd] at d0 s2
        clear hkd
        by_cases a1 : kd = 0
        · rw [if_pos a1] at s2
          have d0' : wr.cell? ⟨b, off + k * 10, none⟩ = some (.int .u8 0) := by rw [d0, a1]; rfl
          clear d0 a1
          go_wp2
          go_roundw
          case rel => exact ⟨k + 1, by omega, by rw [unhide s2]; rfl, by rw [unhide s1]; go_num, by go_num, trivial⟩
          case measure => simp [intOf]; omega
        · rw [if_neg a1] at s2
          have a2 : ¬ (kd.toNat : Int) = 0 := fun e => a1 (UInt8.toNat_inj.1 (by simpa using e))
          go_wp2
          go_roundw
          case rel => exact ⟨k + 1, by omega, by rw [unhide s2]; go_num, by rw [unhide s1]; go_num, by go_num, trivial⟩
          case measure => simp [intOf]; omega
      · have e : k = n := by omega
        subst e
        go_wp2
        go_ret2
        exact ⟨rfl, unhide hB⟩
set_option maxRecDepth 100000 in
set_option maxHeartbeats 1000000 in
theorem rdir_any (a : Option Addr) (n cap : Nat) (ns : List Nd) (now i : Int) (w : World) (h : Ng w a n cap ns) (hs : Sm ns) (hr : ∀ i, i < n → Rb (nd ns i)) :
    Calls Try.prog 45 #[.agg #[.slice a n cap, .int .i64 now], .int .i64 i] w fun e w' => e = .returned (.bool (isDirP now ns i)) ∧ Below w.heap.size w w' := by
  have HC : Hid (∀ W, Below w.heap.size w W → Calls Try.prog 10 #[.agg #[.slice a n cap, .int .i64 now]] W fun e w' => e = .returned (.bool (checkP now ns)) ∧ Below W.heap.size W w') := fun W hW => rcheckAny now (h.below hW) hs hr
  have HB1 : Hid (Below w.heap.size w (w.alloc (.cells #[.slice a n cap, .int .i64 now] 24))) := (Below.refl _ _).alloc (Nat.le_refl _) _
  have HP : Hid (isDirP now ns i = (checkP now ns && decide (0 < i) && decide (i < (n : Int)) && decide ((nd ns i.toNat).kind ≠ 0) && decide ((nd ns i.toNat).kind = 2))) := by rw [← h.len]; exact rfl
  have HA := hide h
  obtain ⟨K, hK⟩ : ∃ K, K = checkP now ns := ⟨_, rfl⟩
  obtain ⟨R, hR⟩ : ∃ R, R = isDirP now ns i := ⟨_, rfl⟩
  rw [← hK] at HC HP
  rw [← hR] at HP ⊢
  clear h hr hK hR
  go_enter Try.func45, Try.ntmps45
  go_wp2_with fail
  refine (unhide HC _ (unhide HB1)).mono ?_
  rintro e w1 ⟨rfl, b1⟩
  have hB := hide (box_keep b1).2.1
  have HX := hide (box_keep b1).1
  clear b1 HC
  cases K with
  | false =>
    obtain rfl : R = false := by rw [unhide HP]; rfl
    clear HP
    go_wp2
    go_ret
    exact ⟨rfl, unhide hB⟩
  | true =>
  have c0 : w1.cell? ⟨w.heap.size, 0, none⟩ = some (.slice a n cap) := by rw [cell_of_row _ _ _ _ _ _ (unhide HX)]; rfl
  by_cases a1 : 0 < i
  case neg =>
    obtain rfl : R = false := by rw [unhide HP, decide_eq_false a1]; rfl
    clear HP
    go_wp2
    go_ret
    exact ⟨rfl, unhide hB⟩
  by_cases a2 : i < (n : Int)
  case neg =>
    obtain rfl : R = false := by rw [unhide HP, decide_eq_false a2]; simp
    clear HP
    go_wp2
    go_ret
    exact ⟨rfl, unhide hB⟩
  obtain ⟨x, rfl⟩ : ∃ x : Nat, i = (x : Int) := ⟨i.toNat, by omega⟩
  have hxn : x < n := by omega
  rw [Int.toNat_natCast] at HP
  rcases (unhide HA).cells with h0 | ⟨b, off, rfl, hb, hc⟩
  · omega
  obtain ⟨da, dc, la, lc, h10, -, -⟩ := (hc x hxn).below hb (unhide hB)
  have d0 := h10.c0
  obtain ⟨kd, hkd⟩ : ∃ kd, kd = (nd ns x).kind := ⟨_, rfl⟩
  rw [← hkd] at d0 HP
  have HR : Hid (((kd.toNat : Int) == 2) = R) := by
    show _ = R
    rw [unhide HP]
    simp only [a1, a2, decide_true, Bool.true_and]
    by_cases e : kd = 2
    · rw [e]; decide
    · rw [show decide (kd = 2) = false from decide_eq_false e, Bool.and_false]
      have := kd_no e
      simpa using this
  clear h10 hc hkd HP
  go_wp2
  go_ret
  exact ⟨by rw [← unhide HR]; rfl, unhide hB⟩
theorem depth_is {now : Int} {ns : List Nd} {x : Nat} (h : isDirP now ns (x : Int) = true) : upG ns 33 (x : Int) 0 = ((namesTo ns x).length : Int) := by
  have hc : checkP now ns = true := by
    unfold isDirP nodeP at h
    simp only [Bool.and_eq_true] at h
    exact h.1.1.1.1
  obtain ⟨hu, hs⟩ := dir_up h
  rw [upG_of hu 33 0 (by omega)]
  unfold namesTo
  rw [List.length_reverse, (names_lead hc hu).1]
  simp
set_option maxRecDepth 100000 in
set_option maxHeartbeats 1000000 in
theorem rdepth_any (a : Option Addr) (n cap : Nat) (ns : List Nd) (now i : Int) (w : World) (h : Ng w a n cap ns) (hs : Sm ns) (hr : ∀ i, i < n → Rb (nd ns i)) :
    Calls Try.prog 21 #[.agg #[.slice a n cap, .int .i64 now], .int .i64 i] w fun e w' => e = .returned (.int .i64 (depthV now ns i)) ∧ Below w.heap.size w w' := by
  have HC : Hid (∀ W, Below w.heap.size w W → Calls Try.prog 45 #[.agg #[.slice a n cap, .int .i64 now], .int .i64 i] W fun e w' => e = .returned (.bool (isDirP now ns i)) ∧ Below W.heap.size W w') := fun W hW => rdir_any a n cap ns now i W (h.below hW) hs hr
  have HB1 : Hid (Below w.heap.size w (w.alloc (.cells #[.slice a n cap, .int .i64 now] 24))) := (Below.refl _ _).alloc (Nat.le_refl _) _
  have HA := hide h
  have HV : Hid (depthV now ns i = if isDirP now ns i then ((namesTo ns i.toNat).length : Int) else 0) := rfl
  obtain ⟨V, hV⟩ : ∃ V, V = depthV now ns i := ⟨_, rfl⟩
  rw [← hV] at HV ⊢
  clear h hr hV
  cases hq : isDirP now ns i with
  | false =>
    rw [hq] at HC HV
    obtain rfl : V = 0 := by rw [unhide HV]; rfl
    clear HV HA hq
    go_enter Try.func21, Try.ntmps21
    go_wp2_with fail
    refine (unhide HC _ (unhide HB1)).mono ?_
    rintro e w1 ⟨rfl, b1⟩
    have hB := hide (box_keep b1).2.1
    clear b1 HC
    go_wp2
    go_ret
    exact ⟨rfl, unhide hB⟩
  | true =>
    obtain ⟨x, hx, hxn⟩ : ∃ x : Nat, i = (x : Int) ∧ x < n := by
      have h1 := hq
      unfold isDirP nodeP at h1
      simp only [Bool.and_eq_true, decide_eq_true_eq] at h1
      rw [(unhide HA).len] at h1
      exact ⟨i.toNat, by omega, by omega⟩
    subst hx
    rcases (unhide HA).cells with h0 | ⟨b, off, rfl, hb, hc⟩
    · omega
    have HU : Hid (∀ W, Below w.heap.size w W → Calls Try.prog 37 #[.agg #[.slice (some ⟨b, off, none⟩) n cap, .int .i64 now], .int .i64 (x : Int)] W fun e w' => e = .returned (.int .i64 V) ∧ Below W.heap.size W w') := fun W hW => by
      have e : V = upG ns 33 (x : Int) 0 := by rw [unhide HV, hq, depth_is hq]; rfl
      rw [e]
      exact rup_any b off n cap ns now (x : Int) W (fun i hi => (hc i hi).below hb hW) (Nat.lt_of_lt_of_le hb hW.size) (unhide HA).len
    rw [hq] at HC
    clear HV hc hq HA
    go_enter Try.func21, Try.ntmps21
    go_wp2_with fail
    refine (unhide HC _ (unhide HB1)).mono ?_
    rintro e w1 ⟨rfl, b1⟩
    have hB := hide (box_keep b1).2.1
    have HX := hide (box_keep b1).1
    clear b1 HC
    have c0 : w1.cell? ⟨w.heap.size, 0, none⟩ = some (.slice (some ⟨b, off, none⟩) n cap) := by rw [cell_of_row _ _ _ _ _ _ (unhide HX)]; rfl
    have c1 : w1.cell? ⟨w.heap.size, 1, none⟩ = some (.int .i64 now) := by rw [cell_of_row _ _ _ _ _ _ (unhide HX)]; rfl
    go_wp2_with fail
    refine (unhide HU _ (unhide hB)).mono ?_
    rintro e w2 ⟨rfl, b2⟩
    have hB2 := hide ((unhide hB).trans (b2.mono (unhide hB).size))
    clear b2 HU
    go_wp2
    go_ret
    exact ⟨rfl, unhide hB2⟩
end Go.Proofs.Ytighgaocnpofpaa.Tr
