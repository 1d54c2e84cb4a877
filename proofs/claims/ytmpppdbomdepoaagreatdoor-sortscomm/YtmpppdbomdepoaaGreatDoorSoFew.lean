/- What few answers of one list of lines, and of two. -/
import Derived.Test.YtmpppdbomdepoaaGreatDoorSoList
import Derived.Test.YtmpppdbomdepoaaGreatDoorTextsSize
import Derived.Test.YtmpppdbomdepoaaGreatDoorKyBase
namespace Go.Proofs.YtmpppdbomdepoaaGreatDoor.So
open Go.RowKit Go.Shelf Ky
open Pa (Tx tot)

attribute [local go_sem] Oper.semAt_some

set_option maxRecDepth 100000 in
set_option maxHeartbeats 400000 in
theorem few_one (A : Ls) (a : Option Addr) (la ca b : Nat) (w : World) (hc : w.cell? ⟨b, 0, none⟩ = some (.slice a la ca)) (hT : Tx w a la ca A) (hl : la ≤ 4611686018427387904) (hs : ∀ s ∈ A, s.size ≤ 4611686018427387904) :
    Calls Tryz.prog 15 #[.slice (some ⟨b, 0, none⟩) 1 1] w fun e w' => ∃ r : Bool, e = .returned (.bool r) ∧ (r = true → la ≤ 300 ∧ la + tot A ≤ 20000) ∧ Below w.heap.size w w' := by
  have C := hide (fun W (h : Below w.heap.size w W) => Pa.textsSize_any a la ca A W (hT.below h) hl hs)
  clear hT hs
  by_cases h1 : (300 : Int) < la
  · go_enter Tryz.func15, Tryz.ntmps15
    go_wp2_with fail
    refine wp_loop_rounds 2 ?_
    rw [rounds_succ]
    go_wp2_with fail
    go_ret
    exact ⟨_, rfl, (fun h => by cases h), Below.refl _ _⟩
  · go_enter Tryz.func15, Tryz.ntmps15
    go_wp2_with fail
    refine wp_loop_rounds 2 ?_
    rw [rounds_succ]
    go_wp2_with fail
    refine (unhide C _ (Below.refl _ _)).mono ?_
    rintro e w1 ⟨⟨v, rfl, h3, h4, h5⟩, hw1⟩
    rw [hw1]
    have H5 := hide h5
    clear h5 C hw1
    by_cases h6 : (20000 : Int) < v
    · go_wp2_with fail
      go_ret
      exact ⟨_, rfl, (fun h => by cases h), Below.refl _ _⟩
    · go_wp2_with fail
      rw [rounds_succ]
      go_wp2_with fail
      go_ret
      refine ⟨_, rfl, fun _ => ⟨by omega, ?_⟩, Below.refl _ _⟩
      have := unhide H5 (by omega)
      omega
set_option maxRecDepth 100000 in
set_option maxHeartbeats 800000 in
theorem few_two (A B : Ls) (a a2 : Option Addr) (la ca lb cb b : Nat) (w : World) (hc : w.cell? ⟨b, 0, none⟩ = some (.slice a la ca)) (hc2 : w.cell? ⟨b, 1, none⟩ = some (.slice a2 lb cb)) (hT : Tx w a la ca A) (hT2 : Tx w a2 lb cb B) (hl : la ≤ 4611686018427387904) (hl2 : lb ≤ 4611686018427387904) (hs : ∀ s ∈ A, s.size ≤ 4611686018427387904) (hs2 : ∀ s ∈ B, s.size ≤ 4611686018427387904) :
    Calls Tryz.prog 15 #[.slice (some ⟨b, 0, none⟩) 2 2] w fun e w' => ∃ r : Bool, e = .returned (.bool r) ∧ (r = true → la + lb ≤ 300 ∧ la + tot A ≤ 20000 ∧ lb + tot B ≤ 20000) ∧ Below w.heap.size w w' := by
  have C := hide (Pa.textsSize_any a la ca A w hT hl hs)
  have C2 := hide (Pa.textsSize_any a2 lb cb B w hT2 hl2 hs2)
  clear hT hs hT2 hs2
  by_cases h1 : (300 : Int) < la
  · go_enter Tryz.func15, Tryz.ntmps15
    go_wp2_with fail
    refine wp_loop_rounds 3 ?_
    rw [rounds_succ]
    go_wp2_with fail
    go_ret
    exact ⟨_, rfl, (fun h => by cases h), Below.refl _ _⟩
  · go_enter Tryz.func15, Tryz.ntmps15
    go_wp2_with fail
    refine wp_loop_rounds 3 ?_
    rw [rounds_succ]
    go_wp2_with fail
    refine (unhide C).mono ?_
    rintro e w1 ⟨⟨v, rfl, h3, h4, h5⟩, hw1⟩
    rw [hw1]
    have H5 := hide h5
    clear h5 C hw1
    by_cases h6 : (20000 : Int) < v
    · go_wp2_with fail
      go_ret
      exact ⟨_, rfl, (fun h => by cases h), Below.refl _ _⟩
    · by_cases h7 : (300 : Int) < lb
      · go_wp2_with fail
        rw [rounds_succ]
        go_wp2_with fail
        go_ret
        exact ⟨_, rfl, (fun h => by cases h), Below.refl _ _⟩
      · go_wp2_with fail
        rw [rounds_succ]
        go_wp2_with fail
        refine (unhide C2).mono ?_
        rintro e w1 ⟨⟨v2, rfl, k3, k4, k5⟩, hw1⟩
        rw [hw1]
        have K5 := hide k5
        clear k5 C2 hw1
        by_cases h8 : (20000 : Int) < v2
        · go_wp2_with fail
          go_ret
          exact ⟨_, rfl, (fun h => by cases h), Below.refl _ _⟩
        · go_wp2_with fail
          rw [rounds_succ]
          go_wp2_with fail
          go_ret
          refine ⟨_, rfl, fun h => ?_, Below.refl _ _⟩
          have e1 := unhide H5 (by omega)
          have e2 := unhide K5 (by omega)
          have h9 : (la : Int) + (lb : Int) ≤ 300 := by simpa using h
          omega
end Go.Proofs.YtmpppdbomdepoaaGreatDoor.So
