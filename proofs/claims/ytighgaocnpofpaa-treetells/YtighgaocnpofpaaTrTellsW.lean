/- TreeTells walked. -/
import Derived.Test.YtighgaocnpofpaaTrChecksW
import Derived.Test.YtighgaocnpofpaaTrRFind
import Derived.Test.YtighgaocnpofpaaTrRStat
import Derived.Test.YtighgaocnpofpaaTrRSizes
import Derived.Test.YtighgaocnpofpaaTrRPath
namespace Go.Proofs.Ytighgaocnpofpaa.Tr
open Go.RowKit Go.Proofs.Ytighgaocnpofpaa.Cu

theorem statV_form (now : Int) (ns : List Nd) (i : Int) : ∃ (v0 v2 v3 v4 v5 v6 v7 ec : Int) (k : Nat), statV now ns i = .tuple #[.agg #[.int .i64 v0, .int .u8 k, .int .i64 v2, .int .i64 v3, .int .i64 v4, .int .i64 v5, .int .i64 v6, .int .i64 v7], .int .i64 ec] := by
  unfold statV
  split
  · exact ⟨_, _, _, _, _, _, _, _, _, rfl⟩
  · exact ⟨_, _, _, _, _, _, _, _, 0, rfl⟩
theorem pathV_form (now : Int) (ns : List Nd) (i : Int) : ∃ (s : ByteArray) (ec : Int), pathV now ns i = .tuple #[.string s, .int .i64 ec] := by
  unfold pathV
  split
  · exact ⟨_, _, rfl⟩
  · exact ⟨_, _, rfl⟩
theorem sizesV_form (now : Int) (ns : List Nd) : ∃ (a b : Int), sizesV now ns = .tuple #[.int .i64 a, .int .i64 b] := by
  unfold sizesV
  split
  · exact ⟨_, _, rfl⟩
  · exact ⟨_, _, rfl⟩
set_option maxRecDepth 100000 in
set_option maxHeartbeats 2000000 in
theorem tells_walk (a : Option Addr) (n cap : Nat) (ns : List Nd) (now i : Int) (nm : ByteArray) (w : World) (h : Ng w a n cap ns) (hn : n ≤ 281474976710656) (hr : ∀ i, i < n → Rb (nd ns i)) :
    Calls Try.prog 4 #[.agg #[.slice a n cap, .int .i64 now], .int .i64 i, .string nm] w fun e w' => e = .returned (.bool true) ∧ Below w.heap.size w w' := by
  have HG : Hid (∀ W, Below w.heap.size w W → Calls Try.prog 6 #[.agg #[.slice a n cap, .int .i64 now]] W fun e w' => (∃ q : Bool, e = .returned (.bool q) ∧ (q = false → nodesTo ns ns.length ≤ 200000)) ∧ Below W.heap.size W w') := fun W hW => great_any a n cap ns now W (h.below hW) hn hr
  have HL := hide lives_any
  have HN := hide h
  have HR := hide hr
  have hlen := h.len
  have HB0 : Hid (Below w.heap.size w (w.alloc (.cells #[.slice a n cap, .int .i64 now] 24))) := (Below.refl _ _).alloc (Nat.le_refl _) _
  have HX0 := hide (heap_alloc_new w (.cells #[.slice a n cap, .int .i64 now] 24))
  have HLN := hide hlen
  clear h hr hlen
  go_enter Try.func4, Try.ntmps4
  go_wp2_with fail
  refine (unhide HG _ (unhide HB0)).mono ?_
  rintro e w1 ⟨⟨q, rfl, hq⟩, b1⟩
  have HB1 := hide ((unhide HB0).trans (b1.mono (unhide HB0).size))
  have HX1 := hide ((b1.block _ (Array.getElem?_eq_some_iff.1 (unhide HX0)).1).trans (unhide HX0))
  clear b1 HG HB0 HX0
  cases q with
  | true =>
    clear hq
    go_wp2_with fail
    refine (unhide HL _).mono ?_
    rintro e w2 ⟨rfl, b2⟩
    have hB2 := hide ((unhide HB1).trans (b2.mono (unhide HB1).size))
    clear b2 HL HB1
    go_wp2
    go_ret
    exact ⟨rfl, unhide hB2⟩
  | false =>
    have hsz := hq rfl
    have HSM := hide (sm_of_size hsz)
    have HPA := hide (sm_parts hsz)
    have hn6 : n ≤ 1048576 := by rw [← unhide HLN]; have := (unhide HSM).hn; omega
    have c0 : w1.cell? ⟨w.heap.size, 0, none⟩ = some (.slice a n cap) := by rw [cell_of_row _ _ _ _ _ _ (unhide HX1)]; rfl
    have c1 : w1.cell? ⟨w.heap.size, 1, none⟩ = some (.int .i64 now) := by rw [cell_of_row _ _ _ _ _ _ (unhide HX1)]; rfl
    have HTT := hide (twinTree_all a n cap cap ns now w1 ((unhide HN).below (unhide HB1)) hn6 (unhide HPA))
    clear hq hsz
    go_wp2_with fail
    refine (unhide HTT).mono ?_
    rintro e w2 ⟨⟨G, acc, rfl, hm, htw, hG⟩, b2⟩
    have HB2 := hide ((unhide HB1).trans (b2.mono (unhide HB1).size))
    have HX2 := hide ((b2.block _ (Array.getElem?_eq_some_iff.1 (unhide HX1)).1).trans (unhide HX1))
    have hal : acc.length = n := by rw [← unhide HLN, ← hm]; simp
    have hng : ∀ V, Below w2.heap.size w2 V → Ng V (some ⟨G, 0, none⟩) n (n + 1) ns := fun V hV => by
      have hng := htw.ng.below hV
      rw [hm, hal] at hng
      exact hng
    have hnt : ∀ V, Below w2.heap.size w2 V → Ng V a n cap ns := fun V hV => (unhide HN).below ((unhide HB2).trans (hV.mono (unhide HB2).size))
    have HS1 : Hid (∀ V, Below w2.heap.size w2 V → Calls Try.prog 12 #[.agg #[.slice (some ⟨G, 0, none⟩) n (n + 1), .int .i64 now], .int .i64 i] V fun e w' => e = .returned (statV now ns i) ∧ Below V.heap.size V w') := fun V hV => stat_any _ n (n + 1) ns now i V (hng V hV) (unhide HSM)
    have HS2 : Hid (∀ V, Below w2.heap.size w2 V → Calls Try.prog 13 #[.agg #[.slice a n cap, .int .i64 now], .int .i64 i] V fun e w' => e = .returned (statV now ns i) ∧ Below V.heap.size V w') := fun V hV => rstat_any a n cap ns now i V (hnt V hV) (unhide HSM) (unhide HR)
    have HP1 : Hid (∀ V, Below w2.heap.size w2 V → Calls Try.prog 14 #[.agg #[.slice (some ⟨G, 0, none⟩) n (n + 1), .int .i64 now], .int .i64 i] V fun e w' => e = .returned (pathV now ns i) ∧ Below V.heap.size V w') := fun V hV => path_any _ n (n + 1) ns now i V (hng V hV) (unhide HSM)
    have HP2 : Hid (∀ V, Below w2.heap.size w2 V → Calls Try.prog 15 #[.agg #[.slice a n cap, .int .i64 now], .int .i64 i] V fun e w' => e = .returned (pathV now ns i) ∧ Below V.heap.size V w') := fun V hV => rpath_any a n cap ns now i V (hnt V hV) (unhide HSM) (unhide HR)
    have HZ1 : Hid (∀ V, Below w2.heap.size w2 V → Calls Try.prog 16 #[.agg #[.slice (some ⟨G, 0, none⟩) n (n + 1), .int .i64 now]] V fun e w' => e = .returned (sizesV now ns) ∧ Below V.heap.size V w') := fun V hV => sizes_any _ n (n + 1) ns now V (hng V hV) (unhide HSM)
    have HZ2 : Hid (∀ V, Below w2.heap.size w2 V → Calls Try.prog 17 #[.agg #[.slice a n cap, .int .i64 now]] V fun e w' => e = .returned (sizesV now ns) ∧ Below V.heap.size V w') := fun V hV => rsizes_any a n cap ns now V (hnt V hV) (unhide HSM) (unhide HR)
    have HF1 : Hid (∀ V, Below w2.heap.size w2 V → Calls Try.prog 18 #[.agg #[.slice (some ⟨G, 0, none⟩) n (n + 1), .int .i64 now], .int .i64 i, .string nm] V fun e w' => e = .returned (.int .i64 (findV now ns i nm)) ∧ Below V.heap.size V w') := fun V hV => find_any _ n (n + 1) ns now i nm V (hng V hV) (unhide HSM)
    have HF2 : Hid (∀ V, Below w2.heap.size w2 V → Calls Try.prog 19 #[.agg #[.slice a n cap, .int .i64 now], .int .i64 i, .string nm] V fun e w' => e = .returned (.int .i64 (findV now ns i nm)) ∧ Below V.heap.size V w') := fun V hV => rfind_any a n cap ns now i nm V (hnt V hV) (unhide HSM) (unhide HR)
    have HD1 : Hid (∀ V, Below w2.heap.size w2 V → Calls Try.prog 20 #[.agg #[.slice (some ⟨G, 0, none⟩) n (n + 1), .int .i64 now], .int .i64 i] V fun e w' => e = .returned (.int .i64 (depthV now ns i)) ∧ Below V.heap.size V w') := fun V hV => depth_any _ n (n + 1) ns now i V (hng V hV) (unhide HSM)
    have HD2 : Hid (∀ V, Below w2.heap.size w2 V → Calls Try.prog 21 #[.agg #[.slice a n cap, .int .i64 now], .int .i64 i] V fun e w' => e = .returned (.int .i64 (depthV now ns i)) ∧ Below V.heap.size V w') := fun V hV => rdepth_any a n cap ns now i V (hnt V hV) (unhide HSM) (unhide HR)
    have HC3 : Hid (∀ V, Below w2.heap.size w2 V → Calls Try.prog 11 #[.agg #[.slice (some ⟨G, 0, none⟩) n (n + 1), .int .i64 now], .agg #[.slice a n cap, .int .i64 now]] V fun e w' => e = .returned (.bool true) ∧ Below V.heap.size V w') := fun V hV =>
      leftTree_any G a n cap cap now acc ns V ((unhide HN).below ((unhide HB2).trans (hV.mono (unhide HB2).size))) hm (htw.below hV) hn6 (unhide HPA)
    obtain ⟨v0, v2, v3, v4, v5, v6, v7, ec, kd, hst⟩ := statV_form now ns i
    obtain ⟨ps, pc, hpt⟩ := pathV_form now ns i
    obtain ⟨za, zb, hzt⟩ := sizesV_form now ns
    rw [hst] at HS1 HS2
    rw [hpt] at HP1 HP2
    rw [hzt] at HZ1 HZ2
    obtain ⟨FV, hFV⟩ : ∃ F, F = findV now ns i nm := ⟨_, rfl⟩
    obtain ⟨DV, hDV⟩ : ∃ D, D = depthV now ns i := ⟨_, rfl⟩
    rw [← hFV] at HF1 HF2
    rw [← hDV] at HD1 HD2
    clear b2 c0 c1 HTT hm htw hG hal HB1 HX1 HN HR hng hnt hst hpt hzt hFV hDV
    go_wp2_with fail
    obtain ⟨N, hNe⟩ : ∃ N, N = w.heap.size := ⟨_, rfl⟩
    obtain ⟨X, hXe⟩ : ∃ X, X = w2.heap.size := ⟨_, rfl⟩
    obtain ⟨wx, hwx⟩ : ∃ wx, wx = w2.alloc (.cells #[.slice (some ⟨G, 0, none⟩) n (n + 1), .int .i64 now] 24) := ⟨_, rfl⟩
    have hbx : Below w2.heap.size w2 wx := by rw [hwx]; exact (Below.refl _ _).alloc (Nat.le_refl _) _
    have hT : Th w wx N X (.cells #[.slice a n cap, .int .i64 now] 24) (.cells #[.slice (some ⟨G, 0, none⟩) n (n + 1), .int .i64 now] 24) := by
      refine ⟨(unhide HB2).trans (hbx.mono (unhide HB2).size), ?_, ?_⟩
      · rw [hNe]; exact (hbx.block _ (Array.getElem?_eq_some_iff.1 (unhide HX2)).1).trans (unhide HX2)
      · rw [hXe, hwx]; exact heap_alloc_new w2 _
    rw [← hNe, ← hXe, ← hwx]
    have HTd := hide hT
    have HQd := hide hbx
    clear hT hbx hNe hXe hwx HX2
    refine (unhide HS1 _ (unhide HQd)).mono ?_
    rintro e w3 ⟨rfl, hb⟩
    have HTe := hide ((unhide HTd).step hb)
    have HQe := hide ((unhide HQd).trans (hb.mono (unhide HQd).size))
    obtain ⟨c0, c1, c2, c3⟩ := (unhide HTe).cells
    have hNw : N < w3.heap.size := (Array.getElem?_eq_some_iff.1 (unhide HTe).b1).1
    have hXw : X < w3.heap.size := (Array.getElem?_eq_some_iff.1 (unhide HTe).b2).1
    clear hb HTd HQd HS1
    go_wp2_with fail
    obtain ⟨A, hAe⟩ : ∃ A, A = w3.heap.size := ⟨_, rfl⟩
    obtain ⟨wa, hwa⟩ : ∃ wa, wa = w3.alloc (.cells #[.int .i64 v0, .int .u8 kd, .int .i64 v2, .int .i64 v3, .int .i64 v4, .int .i64 v5, .int .i64 v6, .int .i64 v7] 31) := ⟨_, rfl⟩
    have hba : Below w3.heap.size w3 wa := by rw [hwa]; exact (Below.refl _ _).alloc (Nat.le_refl _) _
    have HTf := hide ((unhide HTe).step hba)
    have HQf := hide ((unhide HQe).trans (hba.mono (unhide HQe).size))
    have GA : Hid (wa.heap[A]? = some (.cells #[.int .i64 v0, .int .u8 kd, .int .i64 v2, .int .i64 v3, .int .i64 v4, .int .i64 v5, .int .i64 v6, .int .i64 v7] 31)) := by rw [hwa, hAe]; exact heap_alloc_new w3 _
    rw [← hAe, ← hwa]
    clear hba hwa hAe c0 c1 c2 c3 hNw hXw HTe HQe
    refine (unhide HS2 _ (unhide HQf)).mono ?_
    rintro e w4 ⟨rfl, hb⟩
    have HTg := hide ((unhide HTf).step hb)
    have HQg := hide ((unhide HQf).trans (hb.mono (unhide HQf).size))
    have GA4 := hide ((hb.block _ (Array.getElem?_eq_some_iff.1 (unhide GA)).1).trans (unhide GA))
    obtain ⟨c0, c1, c2, c3⟩ := (unhide HTg).cells
    have hNw : N < w4.heap.size := (Array.getElem?_eq_some_iff.1 (unhide HTg).b1).1
    have hXw : X < w4.heap.size := (Array.getElem?_eq_some_iff.1 (unhide HTg).b2).1
    clear hb HTf HQf HS2 GA
    go_wp2_with fail
    obtain ⟨B, hBe⟩ : ∃ B, B = w4.heap.size := ⟨_, rfl⟩
    obtain ⟨wb, hwb⟩ : ∃ wb, wb = w4.alloc (.cells #[.int .i64 v0, .int .u8 kd, .int .i64 v2, .int .i64 v3, .int .i64 v4, .int .i64 v5, .int .i64 v6, .int .i64 v7] 31) := ⟨_, rfl⟩
    have hba : Below w4.heap.size w4 wb := by rw [hwb]; exact (Below.refl _ _).alloc (Nat.le_refl _) _
    have HT0 := hide ((unhide HTg).step hba)
    have HQ0 := hide ((unhide HQg).trans (hba.mono (unhide HQg).size))
    have GA0 := hide ((hba.block _ (Array.getElem?_eq_some_iff.1 (unhide GA4)).1).trans (unhide GA4))
    have GB0 : Hid (wb.heap[B]? = some (.cells #[.int .i64 v0, .int .u8 kd, .int .i64 v2, .int .i64 v3, .int .i64 v4, .int .i64 v5, .int .i64 v6, .int .i64 v7] 31)) := by rw [hwb, hBe]; exact heap_alloc_new w4 _
    rw [← hBe, ← hwb]
    clear hba hwb hBe c0 c1 c2 c3 hNw hXw HTg HQg GA4
    refine (unhide HP1 _ (unhide HQ0)).mono ?_
    rintro e w5 ⟨rfl, hb⟩
    have HT1 := hide ((unhide HT0).step hb)
    have HQ1 := hide ((unhide HQ0).trans (hb.mono (unhide HQ0).size))
    have GA1 := hide ((hb.block _ (Array.getElem?_eq_some_iff.1 (unhide GA0)).1).trans (unhide GA0))
    have GB1 := hide ((hb.block _ (Array.getElem?_eq_some_iff.1 (unhide GB0)).1).trans (unhide GB0))
    clear hb HT0 HQ0 GA0 GB0 HP1
    obtain ⟨c0, c1, c2, c3⟩ := (unhide HT1).cells
    go_wp2_with fail
    refine (unhide HP2 _ (unhide HQ1)).mono ?_
    rintro e w6 ⟨rfl, hb⟩
    have HT2 := hide ((unhide HT1).step hb)
    have HQ2 := hide ((unhide HQ1).trans (hb.mono (unhide HQ1).size))
    have GA2 := hide ((hb.block _ (Array.getElem?_eq_some_iff.1 (unhide GA1)).1).trans (unhide GA1))
    have GB2 := hide ((hb.block _ (Array.getElem?_eq_some_iff.1 (unhide GB1)).1).trans (unhide GB1))
    clear hb HT1 HQ1 GA1 GB1 HP2 c0 c1 c2 c3
    obtain ⟨c0, c1, c2, c3⟩ := (unhide HT2).cells
    go_wp2_with fail
    refine (unhide HZ1 _ (unhide HQ2)).mono ?_
    rintro e w7 ⟨rfl, hb⟩
    have HT3 := hide ((unhide HT2).step hb)
    have HQ3 := hide ((unhide HQ2).trans (hb.mono (unhide HQ2).size))
    have GA3 := hide ((hb.block _ (Array.getElem?_eq_some_iff.1 (unhide GA2)).1).trans (unhide GA2))
    have GB3 := hide ((hb.block _ (Array.getElem?_eq_some_iff.1 (unhide GB2)).1).trans (unhide GB2))
    clear hb HT2 HQ2 GA2 GB2 HZ1 c0 c1 c2 c3
    obtain ⟨c0, c1, c2, c3⟩ := (unhide HT3).cells
    go_wp2_with fail
    refine (unhide HZ2 _ (unhide HQ3)).mono ?_
    rintro e w8 ⟨rfl, hb⟩
    have HT4 := hide ((unhide HT3).step hb)
    have HQ4 := hide ((unhide HQ3).trans (hb.mono (unhide HQ3).size))
    have GA4 := hide ((hb.block _ (Array.getElem?_eq_some_iff.1 (unhide GA3)).1).trans (unhide GA3))
    have GB4 := hide ((hb.block _ (Array.getElem?_eq_some_iff.1 (unhide GB3)).1).trans (unhide GB3))
    clear hb HT3 HQ3 GA3 GB3 HZ2 c0 c1 c2 c3
    obtain ⟨c0, c1, c2, c3⟩ := (unhide HT4).cells
    obtain ⟨d0, d1, d2, d3, d4, d5, d6, d7, -⟩ := room8 (unhide GA4)
    obtain ⟨f0, f1, f2, f3, f4, f5, f6, f7, -⟩ := room8 (unhide GB4)
    go_wp2_with fail
    have hTd : Th w w8.drew N X (.cells #[.slice a n cap, .int .i64 now] 24) (.cells #[.slice (some ⟨G, 0, none⟩) n (n + 1), .int .i64 now] 24) := ⟨⟨(unhide HT4).below.os, (unhide HT4).below.tape, (unhide HT4).below.output, (unhide HT4).below.size, (unhide HT4).below.block⟩, (unhide HT4).b1, (unhide HT4).b2⟩
    have hQd : Below w2.heap.size w2 w8.drew := ⟨(unhide HQ4).os, (unhide HQ4).tape, (unhide HQ4).output, (unhide HQ4).size, (unhide HQ4).block⟩
    have hS1 := hTd.cells
    have HTd := hide hTd
    have HQd := hide hQd
    clear hTd hQd HT4 HQ4 GA4 GB4 c0 c1 c2 c3 d0 d1 d2 d3 d4 d5 d6 d7 f0 f1 f2 f3 f4 f5 f6 f7
    go_region_held3 (fun w' => w'.cell? ⟨N, 0, none⟩ = some (.slice a n cap) ∧ w'.cell? ⟨N, 1, none⟩ = some (.int .i64 now) ∧ w'.cell? ⟨X, 0, none⟩ = some (.slice (some ⟨G, 0, none⟩) n (n + 1)) ∧ w'.cell? ⟨X, 1, none⟩ = some (.int .i64 now)) (with_reducible assumption)
      (first
        | ((with_reducible refine (unhide HF1 _ (unhide HQd)).mono ?_); rintro r w9 ⟨rfl, hb⟩; have HTe := hide ((unhide HTd).step hb); have HQe := hide ((unhide HQd).trans (hb.mono (unhide HQd).size)); have hS2 := (unhide HTe).cells; clear hb)
        | ((with_reducible refine (unhide HF2 _ (unhide HQe)).mono ?_); rintro r w10 ⟨rfl, hb⟩; have HTf := hide ((unhide HTe).step hb); have HQf := hide ((unhide HQe).trans (hb.mono (unhide HQe).size)); have hS3 := (unhide HTf).cells; clear hb)
        | ((with_reducible refine (unhide HD1 _ (unhide HQf)).mono ?_); rintro r w11 ⟨rfl, hb⟩; have HTg := hide ((unhide HTf).step hb); have HQg := hide ((unhide HQf).trans (hb.mono (unhide HQf).size)); have hS4 := (unhide HTg).cells; clear hb)
        | ((with_reducible refine (unhide HD2 _ (unhide HQg)).mono ?_); rintro r w12 ⟨rfl, hb⟩; have HTh := hide ((unhide HTg).step hb); have HQh := hide ((unhide HQg).trans (hb.mono (unhide HQg).size)); have hS5 := (unhide HTh).cells; clear hb)
        | ((with_reducible refine (unhide HC3 _ (unhide HQh)).mono ?_); rintro r w13 ⟨rfl, hb⟩; have HTi := hide ((unhide HTh).step hb); have HQi := hide ((unhide HQh).trans (hb.mono (unhide HQh).size)); have hS6 := (unhide HTi).cells; clear hb)
        | ((with_reducible refine (unhide HL _).mono ?_); rintro r w14 ⟨rfl, hb⟩; have HTj := hide ((unhide HTi).step hb); have hS7 := (unhide HTj).cells; clear hb)
        | fail)
    have HFin := hide (unhide HTj).below
    clear hS1 hS2 hS3 hS4 hS5 hS6 hS7 HTd HTe HTf HTg HTh HTi HTj HQd HQe HQf HQg HQh HQi
    go_wp2
    go_ret
    exact ⟨rfl, unhide HFin⟩
end Go.Proofs.Ytighgaocnpofpaa.Tr
