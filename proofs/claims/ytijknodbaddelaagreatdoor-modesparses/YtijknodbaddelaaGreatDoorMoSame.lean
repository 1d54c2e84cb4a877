/- What SameChanges answers where the lists are the same. -/
import Derived.Test.YtijknodbaddelaaGreatDoorMoList
namespace Go.Proofs.YtijknodbaddelaaGreatDoor.Mo
open Go.RowKit

set_option maxHeartbeats 1000000 in
set_option maxRecDepth 100000 in
theorem same_go (b1 o1 b2 o2 n c1 c2 : Nat) (cs : List Ch) (w : World) (hn : n ≤ 4611686018427387904)
    (h1 : ∀ i, i < n → C5 w b1 (o1 + i * 5) (cs.getD i cz)) (h2 : ∀ i, i < n → C5 w b2 (o2 + i * 5) (cs.getD i cz)) :
    Calls Tryz.prog 9 #[.slice (some ⟨b1, o1, none⟩) n c1, .slice (some ⟨b2, o2, none⟩) n c2] w fun e w' => e = .returned (.bool true) ∧ ∃ q, w' = w.drewN q := by
  have H1 := hide h1
  have H2 := hide h2
  clear h1 h2
  go_enter Tryz.func9, Tryz.ntmps9
  go_wp2
  go_loopw [5] (fun i wr => ∃ k q : Nat, k ≤ n ∧ i = .int .i64 k ∧ wr = w.drewN q) (fun i _ => n - (intOf i).toNat)
  case atStart => exact ⟨0, 0, Nat.zero_le _, rfl, rfl⟩
  case round =>
    obtain ⟨k, q, hk, rfl, rfl⟩ := hrel
    by_cases hlt : k < n
    · have hlt' : (k : Int) < (n : Int) := by omega
      have hc := unhide H1 k hlt
      have hd := unhide H2 k hlt
      have hc0 := hc.c0
      have hc1 := hc.c1
      have hc2 := hc.c2
      have hc3 := hc.c3
      have hc4 := hc.c4
      have hd0 := hd.c0
      have hd1 := hd.c1
      have hd2 := hd.c2
      have hd3 := hd.c3
      have hd4 := hd.c4
      obtain ⟨c, hx⟩ : ∃ c, c = cs.getD k cz := ⟨_, rfl⟩
      rw [← hx] at hc0 hc1 hc2 hc3 hc4 hd0 hd1 hd2 hd3 hd4
      clear hx hc hd
      obtain ⟨who, op, bts, cp, dirs⟩ := c
      simp only at hc0 hc1 hc2 hc3 hc4 hd0 hd1 hd2 hd3 hd4
      go_wp2
      go_quiet (fail)
      go_wp2
      go_roundw
      case rel => exact ⟨k + 1, q + nq, by omega, by go_num, rfl⟩
      case measure => simp [intOf]; omega
    · go_wp2
      go_ret
      exact ⟨rfl, q, rfl⟩
set_option maxHeartbeats 400000 in
theorem same_none (a b : Option Addr) (c1 c2 : Nat) (w : World) :
    Calls Tryz.prog 9 #[.slice a 0 c1, .slice b 0 c2] w fun e w' => e = .returned (.bool true) ∧ w' = w := by
  go_enter Tryz.func9, Tryz.ntmps9
  go_wp2
  refine wp_loop_rounds 1 ?_
  rw [rounds_succ]
  go_wp2
  go_ret
  exact ⟨rfl, rfl⟩
theorem same_any (a b : Option Addr) (n c1 c2 c1' c2' : Nat) (cs : List Ch) (w : World) (hn : n ≤ 4611686018427387904) (h1 : Cg w a n c1' cs) (h2 : Cg w b n c2' cs) :
    Calls Tryz.prog 9 #[.slice a n c1, .slice b n c2] w fun e w' => e = .returned (.bool true) ∧ Below w.heap.size w w' := by
  rcases h1.cells with rfl | ⟨b1, o1, rfl, _, hc1⟩
  · exact (same_none a b c1 c2 w).mono fun e w' ⟨h1, h2⟩ => ⟨h1, h2 ▸ Below.refl _ _⟩
  · rcases h2.cells with rfl | ⟨b2, o2, rfl, _, hc2⟩
    · exact (same_none _ b c1 c2 w).mono fun e w' ⟨h1, h2⟩ => ⟨h1, h2 ▸ Below.refl _ _⟩
    · exact (same_go b1 o1 b2 o2 n c1 c2 cs w hn hc1 hc2).mono fun e w' ⟨h1, q, h2⟩ => ⟨h1, h2 ▸ below_drew w q⟩
end Go.Proofs.YtijknodbaddelaaGreatDoor.Mo
