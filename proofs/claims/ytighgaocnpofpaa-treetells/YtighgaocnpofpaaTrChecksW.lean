/- TreeChecks walked. -/
import Derived.Test.YtighgaocnpofpaaTrRck
import Derived.Test.YtighgaocnpofpaaTrTwinZ
import Derived.Test.YtighgaocnpofpaaTrLeftT
import Derived.Test.YtighgaocnpofpaaTrLives
import Derived.Deep.RegionHeld3
namespace Go.Proofs.Ytighgaocnpofpaa.Tr
open Go.RowKit Go.Proofs.Ytighgaocnpofpaa.Cu

/-- two trees in their boxes -/
structure Th (w W : World) (N X : Nat) (o1 o2 : Obj) : Prop where
  below : Below w.heap.size w W
  b1 : W.heap[N]? = some o1
  b2 : W.heap[X]? = some o2
theorem Th.step {w W W' : World} {N X : Nat} {o1 o2 : Obj} (h : Th w W N X o1 o2) (hb : Below W.heap.size W W') : Th w W' N X o1 o2 :=
  ⟨h.below.trans (hb.mono h.below.size), (hb.block _ (Array.getElem?_eq_some_iff.1 h.b1).1).trans h.b1, (hb.block _ (Array.getElem?_eq_some_iff.1 h.b2).1).trans h.b2⟩
theorem Th.cells {w W : World} {N X : Nat} {t : TypeId} {p q r s : Value} (h : Th w W N X (.cells #[p, q] t) (.cells #[r, s] t)) :
    W.cell? ⟨N, 0, none⟩ = some p ∧ W.cell? ⟨N, 1, none⟩ = some q ∧ W.cell? ⟨X, 0, none⟩ = some r ∧ W.cell? ⟨X, 1, none⟩ = some s :=
  ⟨by rw [cell_of_row _ _ _ _ _ _ h.b1]; rfl, by rw [cell_of_row _ _ _ _ _ _ h.b1]; rfl, by rw [cell_of_row _ _ _ _ _ _ h.b2]; rfl, by rw [cell_of_row _ _ _ _ _ _ h.b2]; rfl⟩
set_option maxRecDepth 100000 in
set_option maxHeartbeats 2000000 in
theorem checks_walk (a : Option Addr) (n cap : Nat) (ns : List Nd) (now : Int) (w : World) (h : Ng w a n cap ns) (hn : n ≤ 281474976710656) (hr : ∀ i, i < n → Rb (nd ns i)) :
    Calls Try.prog 3 #[.agg #[.slice a n cap, .int .i64 now]] w fun e w' => e = .returned (.bool true) ∧ Below w.heap.size w w' := by
  have HG : Hid (∀ W, Below w.heap.size w W → Calls Try.prog 6 #[.agg #[.slice a n cap, .int .i64 now]] W fun e w' => (∃ q : Bool, e = .returned (.bool q) ∧ (q = false → nodesTo ns ns.length ≤ 200000)) ∧ Below W.heap.size W w') := fun W hW => great_any a n cap ns now W (h.below hW) hn hr
  have HL := hide lives_any
  have HN := hide h
  have HR := hide hr
  have hlen := h.len
  have HB0 : Hid (Below w.heap.size w (w.alloc (.cells #[.slice a n cap, .int .i64 now] 24))) := (Below.refl _ _).alloc (Nat.le_refl _) _
  have HX0 := hide (heap_alloc_new w (.cells #[.slice a n cap, .int .i64 now] 24))
  have HLN := hide hlen
  clear h hr hlen
  go_enter Try.func3, Try.ntmps3
  go_wp2_with fail
  refine (unhide HG _ (unhide HB0)).mono ?_
  rintro e w1 ⟨⟨q, rfl, hq⟩, b1⟩
  have HB1 := hide ((unhide HB0).trans (b1.mono (unhide HB0).size))
  have HX1 := hide ((b1.block _ (Array.getElem?_eq_some_iff.1 (unhide HX0)).1).trans (unhide HX0))
  clear b1 HG HB0 HX0
  cases q with
  | true =>
    clear hq
    go_wp2_with fail
    refine (unhide HL _).mono ?_
    rintro e w2 ⟨rfl, b2⟩
    have hB2 := hide ((unhide HB1).trans (b2.mono (unhide HB1).size))
    clear b2 HL HB1
    go_wp2
    go_ret
    exact ⟨rfl, unhide hB2⟩
  | false =>
    have hsz := hq rfl
    have HSM := hide (sm_of_size hsz)
    have HPA := hide (sm_parts hsz)
    have hn6 : n ≤ 1048576 := by rw [← unhide HLN]; have := (unhide HSM).hn; omega
    have c0 : w1.cell? ⟨w.heap.size, 0, none⟩ = some (.slice a n cap) := by rw [cell_of_row _ _ _ _ _ _ (unhide HX1)]; rfl
    have c1 : w1.cell? ⟨w.heap.size, 1, none⟩ = some (.int .i64 now) := by rw [cell_of_row _ _ _ _ _ _ (unhide HX1)]; rfl
    have HTT := hide (twinTree_all a n cap cap ns now w1 ((unhide HN).below (unhide HB1)) hn6 (unhide HPA))
    clear hq hsz
    go_wp2_with fail
    refine (unhide HTT).mono ?_
    rintro e w2 ⟨⟨G, acc, rfl, hm, htw, hG⟩, b2⟩
    have HB2 := hide ((unhide HB1).trans (b2.mono (unhide HB1).size))
    have HX2 := hide ((b2.block _ (Array.getElem?_eq_some_iff.1 (unhide HX1)).1).trans (unhide HX1))
    have hal : acc.length = n := by rw [← unhide HLN, ← hm]; simp
    have HC1 : Hid (∀ V, Below w2.heap.size w2 V → Calls Try.prog 9 #[.agg #[.slice (some ⟨G, 0, none⟩) n (n + 1), .int .i64 now]] V fun e w' => e = .returned (.bool (checkP now ns)) ∧ Below V.heap.size V w') := fun V hV => by
      have hng := htw.ng.below hV
      rw [hm, hal] at hng
      exact checkAny now hng (unhide HSM)
    have HC2 : Hid (∀ V, Below w2.heap.size w2 V → Calls Try.prog 10 #[.agg #[.slice a n cap, .int .i64 now]] V fun e w' => e = .returned (.bool (checkP now ns)) ∧ Below V.heap.size V w') := fun V hV =>
      rcheckAny now ((unhide HN).below ((unhide HB2).trans (hV.mono (unhide HB2).size))) (unhide HSM) (unhide HR)
    have HC3 : Hid (∀ V, Below w2.heap.size w2 V → Calls Try.prog 11 #[.agg #[.slice (some ⟨G, 0, none⟩) n (n + 1), .int .i64 now], .agg #[.slice a n cap, .int .i64 now]] V fun e w' => e = .returned (.bool true) ∧ Below V.heap.size V w') := fun V hV =>
      leftTree_any G a n cap cap now acc ns V ((unhide HN).below ((unhide HB2).trans (hV.mono (unhide HB2).size))) hm (htw.below hV) hn6 (unhide HPA)
    obtain ⟨K, hK⟩ : ∃ K, K = checkP now ns := ⟨_, rfl⟩
    rw [← hK] at HC1 HC2
    clear b2 c0 c1 HTT hm htw hG hal hK HB1 HX1 HN HR
    go_wp2_with fail
    obtain ⟨N, hNe⟩ : ∃ N, N = w.heap.size := ⟨_, rfl⟩
    obtain ⟨X, hXe⟩ : ∃ X, X = w2.heap.size := ⟨_, rfl⟩
    obtain ⟨wx, hwx⟩ : ∃ wx, wx = w2.alloc (.cells #[.slice (some ⟨G, 0, none⟩) n (n + 1), .int .i64 now] 24) := ⟨_, rfl⟩
    have hbx : Below w2.heap.size w2 wx := by rw [hwx]; exact (Below.refl _ _).alloc (Nat.le_refl _) _
    have bx : Below w2.heap.size w2 wx.drew := ⟨hbx.os, hbx.tape, hbx.output, hbx.size, hbx.block⟩
    have hT : Th w wx.drew N X (.cells #[.slice a n cap, .int .i64 now] 24) (.cells #[.slice (some ⟨G, 0, none⟩) n (n + 1), .int .i64 now] 24) := by
      refine ⟨(unhide HB2).trans (bx.mono (unhide HB2).size), ?_, ?_⟩
      · rw [hNe]; exact (bx.block _ (Array.getElem?_eq_some_iff.1 (unhide HX2)).1).trans (unhide HX2)
      · rw [hXe, hwx]; exact heap_alloc_new w2 _
    rw [← hNe, ← hXe, ← hwx]
    have hS1 := hT.cells
    have HTd := hide hT
    have HQd := hide bx
    clear hT bx hbx hNe hXe hwx HX2
    cases K
    all_goals
      go_region_held3 (fun w' => w'.cell? ⟨N, 0, none⟩ = some (.slice a n cap) ∧ w'.cell? ⟨N, 1, none⟩ = some (.int .i64 now) ∧ w'.cell? ⟨X, 0, none⟩ = some (.slice (some ⟨G, 0, none⟩) n (n + 1)) ∧ w'.cell? ⟨X, 1, none⟩ = some (.int .i64 now)) (with_reducible assumption)
        (first
          | ((with_reducible refine (unhide HC1 _ (unhide HQd)).mono ?_); rintro r w3 ⟨rfl, hb⟩; have HTe := hide ((unhide HTd).step hb); have HQe := hide ((unhide HQd).trans (hb.mono (unhide HQd).size)); have hS2 := (unhide HTe).cells; clear hb)
          | ((with_reducible refine (unhide HC2 _ (unhide HQe)).mono ?_); rintro r w4 ⟨rfl, hb⟩; have HTf := hide ((unhide HTe).step hb); have HQf := hide ((unhide HQe).trans (hb.mono (unhide HQe).size)); have hS3 := (unhide HTf).cells; clear hb)
          | ((with_reducible refine (unhide HC3 _ (unhide HQf)).mono ?_); rintro r w5 ⟨rfl, hb⟩; have HTg := hide ((unhide HTf).step hb); have hS4 := (unhide HTg).cells; clear hb)
          | ((with_reducible refine (unhide HL _).mono ?_); rintro r w6 ⟨rfl, hb⟩; have HTh := hide ((unhide HTg).step hb); have hS5 := (unhide HTh).cells; clear hb)
          | fail)
      have HF := hide (unhide HTh).below
      clear hS1 hS2 hS3 hS4 hS5 HTd HTe HTf HTg HTh HQd HQe HQf
      go_wp2
      go_ret
      exact ⟨rfl, unhide HF⟩
end Go.Proofs.Ytighgaocnpofpaa.Tr
