/- The law LinesJoins's walk. -/
import Derived.Test.YtbamldjifempfaaLnRefJoin
import Derived.Test.YtbamldjifempfaaTextsSize
import Derived.Test.YtbamldjifempfaaBeyond
namespace Go.Proofs.Ytbamldjifempfaa.Pa
open Go.RowKit Go.Shelf

theorem twin_tx {w : World} {base g n : Nat} {ss : List ByteArray} (h : TwinT w base g n ss) (hl : ss.length = n) : Tx w (some ⟨g, 0, none⟩) n (n + 1) ss := by
  subst hl
  obtain ⟨a, c, e, hx⟩ := tx_of_owns h.1
  simp at e
  obtain ⟨rfl, rfl⟩ := e
  exact hx
theorem twin_below {w w' : World} {base g n : Nat} {ss : List ByteArray} (h : TwinT w base g n ss) (hb : Below w.heap.size w w') : TwinT w' base g n ss :=
  ⟨h.1.kept (row := none) ⟨hb.os, hb.tape, hb.output, hb.size, fun k hk _ => hb.block k hk⟩ (.inr (by simp [Value.ownBlock])), (hb.cell (World.block_lt_of_cell? _ _ h.2)).trans h.2⟩

set_option maxRecDepth 100000 in
set_option maxHeartbeats 2000000 in
theorem linesJoins_any (a : Option Addr) (n cap : Nat) (ss : List ByteArray) (w : World) (hT : Tx w a n cap ss) (hn : n ≤ 4611686018427387904) (hA : ∀ s ∈ ss, s.size ≤ 4611686018427387904) :
    Calls Try.prog 3 #[.slice a n cap] w fun e w' => e = .returned (.bool true) ∧ Below w.heap.size w w' := by
  have HS := hide (textsSize_any a n cap ss w hT hn hA)
  have HT := hide hT
  clear hA hT
  go_enter Try.func3, Try.ntmps3
  go_wp2_with fail
  refine (unhide HS).mono ?_
  rintro e w' ⟨⟨v, rfl, hv0, hv1, hv2⟩, rfl⟩
  have HV := hide hv2
  clear hv2 HS
  go_wp2_with fail
  refine (Beyond.beyond_one v w'.heap.size _ (by simp) (by omega) (by omega)).mono ?_
  rintro e w2 ⟨rfl, rfl⟩
  by_cases hb : 1048576 < v
  · go_wp2_with fail
    go_ret
    exact ⟨rfl, (Below.refl _ _).alloc (Nat.le_refl _) _⟩
  · have htot : n + tot ss ≤ 1048576 := by have := unhide HV (by omega); omega
    have hlen := (unhide HT).len
    have hB0 : Below w'.heap.size w' (w'.alloc (.cells #[.int .i64 v] 3)) := (Below.refl _ _).alloc (Nat.le_refl _) _
    have H1 := hide (twinTexts_any a n cap ss _ ((unhide HT).below hB0) (by omega))
    clear HV
    go_wp2_with fail
    refine (unhide H1).mono ?_
    rintro e w1 ⟨rfl, hTw, hB1⟩
    have hB1' : Below w'.heap.size w' w1 := hB0.trans (hB1.mono hB0.size)
    have HTw := hide hTw
    clear H1 hTw hB1 hB0
    have H2 := hide (join_any _ n _ ss w1 (twin_tx (unhide HTw) hlen) (by omega))
    generalize ((w'.alloc (.cells #[.int .i64 v] 3)).heap.size) = g0 at *
    go_wp2_with fail
    refine (unhide H2).mono ?_
    rintro e w2 ⟨rfl, hB2⟩
    have hB2' : Below w'.heap.size w' w2 := hB1'.trans (hB2.mono hB1'.size)
    have HTw2 := hide (twin_below (unhide HTw) hB2)
    clear H2 HTw hB1' hB2
    have H3 := hide (refJoin_any a n cap ss w2 ((unhide HT).below hB2') (by omega))
    go_wp2_with fail
    refine (unhide H3).mono ?_
    rintro e w3 ⟨rfl, hB3⟩
    have hB3' : Below w'.heap.size w' w3 := hB2'.trans (hB3.mono hB2'.size)
    have HTw3 := hide (twin_below (unhide HTw2) hB3)
    clear H3 HTw2 hB2' hB3
    have H4 := hide (leftTexts_any _ _ a n cap ss w3 ((unhide HT).below hB3') (unhide HTw3) (by omega))
    generalize (⟨(joinL ss).toArray⟩ : ByteArray) = xj at *
    go_wp2_with fail
    refine (unhide H4).mono ?_
    rintro e w4 ⟨rfl, hB4⟩
    have hB4' : Below w'.heap.size w' w4 := hB3'.trans (hB4.mono hB3'.size)
    go_wp2_with fail
    go_ret
    exact ⟨rfl, hB4'⟩
end Go.Proofs.Ytbamldjifempfaa.Pa
