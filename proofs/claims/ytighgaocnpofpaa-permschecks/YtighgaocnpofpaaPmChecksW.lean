/- PermsChecks walked. -/
import Derived.Test.YtighgaocnpofpaaPmChk
import Derived.Test.YtighgaocnpofpaaTrTwinZ
import Derived.Test.YtighgaocnpofpaaTrLeftT
import Derived.Deep.RegionHeld3
namespace Go.Proofs.Ytighgaocnpofpaa.Pm
open Go.RowKit Go.Proofs.Ytighgaocnpofpaa.Cu Go.Proofs.Ytighgaocnpofpaa.Tr

set_option maxRecDepth 100000 in
set_option maxHeartbeats 1000000 in
theorem treeSize_any (a : Option Addr) (n cap : Nat) (ns : List Nd) (now : Int) (W : World) (h : Ng W a n cap ns) (hn : n ≤ 281474976710656) (hr : ∀ i, i < n → Rb (nd ns i)) :
    Calls Try.prog 22 #[.agg #[.slice a n cap, .int .i64 now]] W fun e w' => (∃ r : Nat, e = .returned (.int .i64 ((r : Int) + 1)) ∧ r ≤ 4503599627370496 ∧ (r ≤ 1048576 → r = nodesTo ns ns.length)) ∧ Below W.heap.size W w' := by
  have HN : Hid (∀ V, Below W.heap.size W V → Calls Try.prog 50 #[.slice a n cap] V fun e w' => (∃ r : Nat, e = .returned (.int .i64 r) ∧ r ≤ 4503599627370496 ∧ (r ≤ 1048576 → r = nodesTo ns ns.length)) ∧ Below V.heap.size V w') := fun V hV => nodesSize_any a n cap ns V (h.below hV) hn hr
  have hb0 : Hid (Below W.heap.size W (W.alloc (.cells #[.slice a n cap, .int .i64 now] 24))) := (Below.refl _ _).alloc (Nat.le_refl _) _
  clear h hr
  go_enter Try.func22, Try.ntmps22
  go_wp2_with fail
  refine (unhide HN _ (unhide hb0)).mono ?_
  rintro e w1 ⟨⟨r, rfl, hr1, hr2⟩, b1⟩
  have hB1 := hide ((unhide hb0).trans (b1.mono (unhide hb0).size))
  have HR2 := hide hr2
  clear b1 HN hr2
  go_wp2
  go_ret
  exact ⟨⟨r, by go_num, hr1, unhide HR2⟩, unhide hB1⟩
/-- two trees and somebody in their boxes -/
structure Ti (w W : World) (N M X : Nat) (o1 o2 o3 : Obj) : Prop where
  below : Below w.heap.size w W
  b1 : W.heap[N]? = some o1
  b2 : W.heap[M]? = some o2
  b3 : W.heap[X]? = some o3
theorem Ti.step {w W W' : World} {N M X : Nat} {o1 o2 o3 : Obj} (h : Ti w W N M X o1 o2 o3) (hb : Below W.heap.size W W') : Ti w W' N M X o1 o2 o3 :=
  ⟨h.below.trans (hb.mono h.below.size), (hb.block _ (Array.getElem?_eq_some_iff.1 h.b1).1).trans h.b1, (hb.block _ (Array.getElem?_eq_some_iff.1 h.b2).1).trans h.b2, (hb.block _ (Array.getElem?_eq_some_iff.1 h.b3).1).trans h.b3⟩
theorem Ti.cells {w W : World} {N M X : Nat} {t u : TypeId} {p q r s a0 a1 a2 a3 : Value} (h : Ti w W N M X (.cells #[p, q] t) (.cells #[a0, a1, a2, a3] u) (.cells #[r, s] t)) :
    W.cell? ⟨N, 0, none⟩ = some p ∧ W.cell? ⟨N, 1, none⟩ = some q ∧ W.cell? ⟨M, 0, none⟩ = some a0 ∧ W.cell? ⟨M, 1, none⟩ = some a1 ∧ W.cell? ⟨M, 2, none⟩ = some a2 ∧ W.cell? ⟨M, 3, none⟩ = some a3 ∧ W.cell? ⟨X, 0, none⟩ = some r ∧ W.cell? ⟨X, 1, none⟩ = some s := by
  obtain ⟨d0, d1, d2, d3⟩ := box4e h.b2
  exact ⟨by rw [cell_of_row _ _ _ _ _ _ h.b1]; rfl, by rw [cell_of_row _ _ _ _ _ _ h.b1]; rfl, d0, d1, d2, d3, by rw [cell_of_row _ _ _ _ _ _ h.b3]; rfl, by rw [cell_of_row _ _ _ _ _ _ h.b3]; rfl⟩
set_option maxRecDepth 100000 in
set_option maxHeartbeats 2000000 in
theorem checks_walk (a : Option Addr) (n cap : Nat) (ns : List Nd) (now : Int) (e : Ev) (w : World) (h : Ng w a n cap ns) (hn : n ≤ 281474976710656) (hr : ∀ i, i < n → Rb (nd ns i)) :
    Calls Try.prog 5 #[.agg #[.slice a n cap, .int .i64 now], .agg (ea e)] w fun r w' => r = .returned (.bool true) ∧ Below w.heap.size w w' := by
  have HG : Hid (∀ W, Below w.heap.size w W → Calls Try.prog 22 #[.agg #[.slice a n cap, .int .i64 now]] W fun e w' => (∃ r : Nat, e = .returned (.int .i64 ((r : Int) + 1)) ∧ r ≤ 4503599627370496 ∧ (r ≤ 1048576 → r = nodesTo ns ns.length)) ∧ Below W.heap.size W w') := fun W hW => treeSize_any a n cap ns now W (h.below hW) hn hr
  have HL := hide lives_any
  have HN := hide h
  have HR := hide hr
  have hlen := h.len
  have HLN := hide hlen
  have HP : Hid (∀ (b : Option Addr) (c : Nat) V, Ng V b n c ns → Sm ns → Calls Try.prog 24 #[.agg #[.slice b n c, .int .i64 now], .agg (ea e)] V fun r w' => r = .returned (.bool (someP now ns e)) ∧ Below V.heap.size V w') := fun b c V hV hs => pCheck_any b n c ns now e V hV hs
  have HQ : Hid (∀ V, Below w.heap.size w V → Sm ns → Calls Try.prog 25 #[.agg #[.slice a n cap, .int .i64 now], .agg (ea e)] V fun r w' => r = .returned (.bool (someP now ns e)) ∧ Below V.heap.size V w') := fun V hV hs => rSome_any a n cap ns now e V (h.below hV) hs hr
  obtain ⟨K, hK⟩ : ∃ K, K = someP now ns e := ⟨_, rfl⟩
  rw [← hK] at HP HQ
  obtain ⟨u, g, mk, dr⟩ := e
  unfold ea at *
  simp only at HP HQ ⊢
  have G0 := hide (two_newe w (.cells #[.slice a n cap, .int .i64 now] 24) (.cells #[.int .i64 u, .int .i64 g, .int .i64 mk, .int .i64 dr] 43))
  clear h hr hlen hK
  go_enter Try.func5, Try.ntmps5
  go_wp2_with fail
  refine (unhide HG _ (unhide G0).1).mono ?_
  rintro e w1 ⟨⟨q, rfl, hq1, hq2⟩, b1⟩
  have HB1 := hide ((unhide G0).1.trans (b1.mono (unhide G0).1.size))
  have HX1 := hide ((b1.block _ (Array.getElem?_eq_some_iff.1 (unhide G0).2.1).1).trans (unhide G0).2.1)
  have HE1 := hide ((b1.block _ (Array.getElem?_eq_some_iff.1 (unhide G0).2.2.1).1).trans (unhide G0).2.2.1)
  have HQ2 := hide hq2
  clear b1 HG G0 hq2
  by_cases hz : q + 1 ≤ 100000
  case neg =>
    have hz' : (100000 : Int) < (q : Int) + 1 := by omega
    go_wp2_with fail
    refine (unhide HL _).mono ?_
    rintro e w2 ⟨rfl, b2⟩
    have hB2 := hide ((unhide HB1).trans (b2.mono (unhide HB1).size))
    clear b2 HL HB1
    go_wp2
    go_ret
    exact ⟨rfl, unhide hB2⟩
  have hz' : decide ((100000 : Int) < (q : Int) + 1) = false := by simp; omega
  have hsz : nodesTo ns ns.length ≤ 200000 := by rw [← unhide HQ2 (by omega)]; omega
  have HSM := hide (sm_of_size hsz)
  have HPA := hide (sm_parts hsz)
  have hn6 : n ≤ 1048576 := by rw [← unhide HLN]; have := (unhide HSM).hn; omega
  have c0 : w1.cell? ⟨w.heap.size, 0, none⟩ = some (.slice a n cap) := by rw [cell_of_row _ _ _ _ _ _ (unhide HX1)]; rfl
  have c1 : w1.cell? ⟨w.heap.size, 1, none⟩ = some (.int .i64 now) := by rw [cell_of_row _ _ _ _ _ _ (unhide HX1)]; rfl
  have HTT := hide (twinTree_all a n cap cap ns now w1 ((unhide HN).below (unhide HB1)) hn6 (unhide HPA))
  have HN6 := hide hn6
  clear HQ2 hsz hz hq1 hn6 hn
  go_wp2_with fail
  refine (unhide HTT).mono ?_
  rintro e w2 ⟨⟨G, acc, rfl, hm, htw, hG⟩, b2⟩
  have HB2 := hide ((unhide HB1).trans (b2.mono (unhide HB1).size))
  have HX2 := hide ((b2.block _ (Array.getElem?_eq_some_iff.1 (unhide HX1)).1).trans (unhide HX1))
  have HE2 := hide ((b2.block _ (Array.getElem?_eq_some_iff.1 (unhide HE1)).1).trans (unhide HE1))
  have hal : acc.length = n := by rw [← unhide HLN, ← hm]; simp
  have HC1 : Hid (∀ V, Below w2.heap.size w2 V → Calls Try.prog 24 #[.agg #[.slice (some ⟨G, 0, none⟩) n (n + 1), .int .i64 now], .agg #[.int .i64 u, .int .i64 g, .int .i64 mk, .int .i64 dr]] V fun e w' => e = .returned (.bool K) ∧ Below V.heap.size V w') := fun V hV => by
    have hng := htw.ng.below hV
    rw [hm, hal] at hng
    exact unhide HP _ _ V hng (unhide HSM)
  have HC2 : Hid (∀ V, Below w2.heap.size w2 V → Calls Try.prog 25 #[.agg #[.slice a n cap, .int .i64 now], .agg #[.int .i64 u, .int .i64 g, .int .i64 mk, .int .i64 dr]] V fun e w' => e = .returned (.bool K) ∧ Below V.heap.size V w') := fun V hV =>
    unhide HQ V ((unhide HB2).trans (hV.mono (unhide HB2).size)) (unhide HSM)
  have HC3 : Hid (∀ V, Below w2.heap.size w2 V → Calls Try.prog 11 #[.agg #[.slice (some ⟨G, 0, none⟩) n (n + 1), .int .i64 now], .agg #[.slice a n cap, .int .i64 now]] V fun e w' => e = .returned (.bool true) ∧ Below V.heap.size V w') := fun V hV =>
    leftTree_any G a n cap cap now acc ns V ((unhide HN).below ((unhide HB2).trans (hV.mono (unhide HB2).size))) hm (htw.below hV) (unhide HN6) (unhide HPA)
  clear b2 c0 c1 HTT hm htw hG hal HB1 HX1 HE1 HN HR HP HQ
  go_wp2_with fail
  obtain ⟨M, hMe⟩ : ∃ M, M = w.heap.size + 1 := ⟨_, rfl⟩
  obtain ⟨N, hNe⟩ : ∃ N, N = w.heap.size := ⟨_, rfl⟩
  obtain ⟨X, hXe⟩ : ∃ X, X = w2.heap.size := ⟨_, rfl⟩
  obtain ⟨wx, hwx⟩ : ∃ wx, wx = w2.alloc (.cells #[.slice (some ⟨G, 0, none⟩) n (n + 1), .int .i64 now] 24) := ⟨_, rfl⟩
  have hbx : Below w2.heap.size w2 wx := by rw [hwx]; exact (Below.refl _ _).alloc (Nat.le_refl _) _
  have bx : Below w2.heap.size w2 wx.drew := ⟨hbx.os, hbx.tape, hbx.output, hbx.size, hbx.block⟩
  have hT : Ti w wx.drew N M X (.cells #[.slice a n cap, .int .i64 now] 24) (.cells #[.int .i64 u, .int .i64 g, .int .i64 mk, .int .i64 dr] 43) (.cells #[.slice (some ⟨G, 0, none⟩) n (n + 1), .int .i64 now] 24) := by
    refine ⟨(unhide HB2).trans (bx.mono (unhide HB2).size), ?_, ?_, ?_⟩
    · rw [hNe]; exact (bx.block _ (Array.getElem?_eq_some_iff.1 (unhide HX2)).1).trans (unhide HX2)
    · rw [hMe]; exact (bx.block _ (Array.getElem?_eq_some_iff.1 (unhide HE2)).1).trans (unhide HE2)
    · rw [hXe, hwx]; exact heap_alloc_new w2 _
  rw [← hMe, ← hNe, ← hXe, ← hwx]
  have hS1 := hT.cells
  have HTd := hide hT
  have HQd := hide bx
  clear hT bx hbx hNe hXe hwx HX2 hMe HE2
  cases K
  all_goals
    go_region_held3 (fun w' => w'.cell? ⟨N, 0, none⟩ = some (.slice a n cap) ∧ w'.cell? ⟨N, 1, none⟩ = some (.int .i64 now) ∧ w'.cell? ⟨M, 0, none⟩ = some (.int .i64 u) ∧ w'.cell? ⟨M, 1, none⟩ = some (.int .i64 g) ∧ w'.cell? ⟨M, 2, none⟩ = some (.int .i64 mk) ∧ w'.cell? ⟨M, 3, none⟩ = some (.int .i64 dr) ∧ w'.cell? ⟨X, 0, none⟩ = some (.slice (some ⟨G, 0, none⟩) n (n + 1)) ∧ w'.cell? ⟨X, 1, none⟩ = some (.int .i64 now)) (with_reducible assumption)
      (first
        | ((with_reducible refine (unhide HC1 _ (unhide HQd)).mono ?_); rintro r w3 ⟨rfl, hb⟩; have HTe := hide ((unhide HTd).step hb); have HQe := hide ((unhide HQd).trans (hb.mono (unhide HQd).size)); have hS2 := (unhide HTe).cells; clear hb)
        | ((with_reducible refine (unhide HC2 _ (unhide HQe)).mono ?_); rintro r w4 ⟨rfl, hb⟩; have HTf := hide ((unhide HTe).step hb); have HQf := hide ((unhide HQe).trans (hb.mono (unhide HQe).size)); have hS3 := (unhide HTf).cells; clear hb)
        | ((with_reducible refine (unhide HC3 _ (unhide HQf)).mono ?_); rintro r w5 ⟨rfl, hb⟩; have HTg := hide ((unhide HTf).step hb); have hS4 := (unhide HTg).cells; clear hb)
        | ((with_reducible refine (unhide HL _).mono ?_); rintro r w6 ⟨rfl, hb⟩; have HTh := hide ((unhide HTg).step hb); have hS5 := (unhide HTh).cells; clear hb)
        | fail)
    have HF := hide (unhide HTh).below
    clear hS1 hS2 hS3 hS4 hS5 HTd HTe HTf HTg HTh HQd HQe HQf
    go_wp2
    go_ret
    exact ⟨rfl, unhide HF⟩
end Go.Proofs.Ytighgaocnpofpaa.Pm
