/- What LeftBytes and LeftEntries answer. -/
import Derived.Test.YthmoinagfooncaaGreatDoorTrTwinT
namespace Go.Proofs.YthmoinagfooncaaGreatDoor.Tr
open Go.RowKit Go.Proofs.YthmoinagfooncaaGreatDoor.Cu

set_option maxHeartbeats 400000 in
set_option maxRecDepth 100000 in
theorem leftB_some (g b off n cap : Nat) (l : Bs) (w : World) (h : ∀ i, i < n → w.cell? ⟨b, off + i, none⟩ = some (.int .u8 (l.getD i 0).toNat)) (hl : l.length = n) (hT : TwB w g l) (hlen : n ≤ 1048576) :
    Calls Tryz.prog 61 #[.slice (some ⟨g, 0, none⟩) n (n + 1), .slice (some ⟨b, off, none⟩) n cap] w fun e w' => e = .returned (.bool true) ∧ Below w.heap.size w w' := by
  have hsp := hT.2
  rw [hl] at hsp
  have HT : Hid (∀ i, i < n → w.cell? ⟨g, i, none⟩ = some (.int .u8 (l.getD i 0).toNat)) := fun i hi => hT.1 i (by omega)
  have HB := hide h
  clear hT h hl
  go_enter Tryz.func61, Tryz.ntmps61
  go_wp2
  go_loopw [5] (fun i wr => ∃ k q : Nat, k ≤ n ∧ i = .int .i64 k ∧ wr = w.drewN q) (fun i _ => n - (intOf i).toNat)
  case atStart => exact ⟨0, 0, Nat.zero_le _, rfl, rfl⟩
  case round =>
    obtain ⟨k, q, hk, rfl, rfl⟩ := hrel
    by_cases hlt : k < n
    · have hlt' : (k : Int) < (n : Int) := by omega
      have hc1 := unhide HB k hlt
      have hc2 := unhide HT k hlt
      obtain ⟨x, hx⟩ : ∃ x, x = ((l.getD k 0).toNat : Int) := ⟨_, rfl⟩
      rw [← hx] at hc1 hc2
      clear hx
      go_wp2
      go_quiet (fail)
      go_wp2
      go_roundw
      case rel => exact ⟨k + 1, q + nq, by omega, by go_num, rfl⟩
      case measure => simp [intOf]; omega
    · go_wp2
      go_ret
      exact ⟨rfl, below_drewN (Below.refl _ _) q⟩
set_option maxHeartbeats 400000 in
set_option maxRecDepth 100000 in
theorem leftB_none (g cap : Nat) (a : Option Addr) (w : World) (hT : TwB w g []) :
    Calls Tryz.prog 61 #[.slice (some ⟨g, 0, none⟩) 0 1, .slice a 0 cap] w fun e w' => e = .returned (.bool true) ∧ Below w.heap.size w w' := by
  have hsp := hT.2
  rw [List.length_nil] at hsp
  clear hT
  go_enter Tryz.func61, Tryz.ntmps61
  go_wp2
  refine wp_loop_rounds 1 ?_
  rw [rounds_succ]
  go_wp2
  go_ret
  exact ⟨rfl, Below.refl _ _⟩
theorem leftB_any (a : Option Addr) (g n cap c' : Nat) (l : Bs) (w : World) (hB : By w a n c' l) (hT : TwB w g l) (hlen : n ≤ 1048576) :
    Calls Tryz.prog 61 #[.slice (some ⟨g, 0, none⟩) n (n + 1), .slice a n cap] w fun e w' => e = .returned (.bool true) ∧ Below w.heap.size w w' := by
  rcases hB.cells with h0 | ⟨b, off, rfl, _, hc⟩
  · subst h0
    obtain rfl : l = [] := List.eq_nil_of_length_eq_zero hB.len
    exact leftB_none g cap a w hT
  · exact leftB_some g b off n cap l w hc hB.len hT hlen
set_option maxHeartbeats 1000000 in
set_option maxRecDepth 100000 in
theorem leftE_some (g b off len cap : Nat) (l : List En) (w : World) (h : ∀ i, i < len → E2 w b (off + i * 2) (en l i)) (hb : b < w.heap.size) (hl : l.length = len) (hlen : len ≤ 1048576) (ht : TwE w g l) (hg : g < w.heap.size) (hp : 0 < len) :
    Calls Tryz.prog 62 #[.slice (some ⟨g, 0, none⟩) len (len + 1), .slice (some ⟨b, off, none⟩) len cap] w fun e w' => e = .returned (.bool true) ∧ Below w.heap.size w w' := by
  have HC := hide h
  have HT := hide ht
  rw [← hl] at HC
  have HL := hide hl
  clear h ht hl
  go_enter Tryz.func62, Tryz.ntmps62
  go_wp2
  go_loopw [5] (fun i wr => ∃ k : Nat, k ≤ len ∧ i = .int .i64 k ∧ Below w.heap.size w wr) (fun i _ => len - (intOf i).toNat)
  case atStart => exact ⟨0, Nat.zero_le _, rfl, Below.refl _ _⟩
  case round =>
    obtain ⟨k, hk, rfl, hnx⟩ := hrel
    have hsz := hnx.size
    by_cases hlt : k < len
    · have hlt' : (k : Int) < (len : Int) := by omega
      have hkl : k < l.length := by rw [unhide HL]; exact hlt
      have hc := (unhide HC k hkl).of fun o => hnx.cell (p := ⟨b, o, none⟩) hb
      have hd := ((unhide HT).1 k hkl).of fun o => hnx.cell (p := ⟨g, o, none⟩) hg
      have hc0 := hc.c0
      have hc1 := hc.c1
      have hd0 := hd.c0
      have hd1 := hd.c1
      obtain ⟨c, hx⟩ : ∃ c, c = en l k := ⟨_, rfl⟩
      rw [← hx] at hc0 hc1 hd0 hd1
      clear hx hkl hc hd
      obtain ⟨nm, no⟩ := c
      simp only at hc0 hc1 hd0 hd1
      go_wp2
      go_quiet (fail)
      go_wp2
      go_roundw
      case rel => exact ⟨k + 1, by omega, by go_num, below_drewN hnx _⟩
      case measure => simp [intOf]; omega
    · have e : k = len := by omega
      subst e
      have hd := (unhide HT).2.of fun o => hnx.cell (p := ⟨g, o, none⟩) hg
      have hd0 := hd.c0
      have hd1 := hd.c1
      rw [unhide HL] at hd0 hd1
      clear hd
      go_wp2
      go_ret
      exact ⟨rfl, by repeat (first | exact hnx | apply Below.setCell | apply Below.alloc | simpa using hsz)⟩
set_option maxHeartbeats 400000 in
set_option maxRecDepth 100000 in
theorem leftE_none (g cap : Nat) (a : Option Addr) (w : World) (ht : TwE w g []) :
    Calls Tryz.prog 62 #[.slice (some ⟨g, 0, none⟩) 0 1, .slice a 0 cap] w fun e w' => e = .returned (.bool true) ∧ Below w.heap.size w w' := by
  obtain ⟨_, hd⟩ := ht
  have hd0 := hd.c0
  have hd1 := hd.c1
  simp only [List.length_nil, Nat.zero_mul, Nat.zero_add] at hd0 hd1
  clear hd
  go_enter Tryz.func62, Tryz.ntmps62
  go_wp2
  refine wp_loop_rounds 1 ?_
  rw [rounds_succ]
  go_wp2
  go_ret
  exact ⟨rfl, by repeat (first | exact Below.refl _ _ | apply Below.setCell | apply Below.alloc | simp)⟩
theorem leftE_any (g : Nat) (a : Option Addr) (len cap c' : Nat) (l : List En) (w : World) (h : Eg w a len c' l) (hlen : len ≤ 1048576) (ht : TwE w g l) (hg : g < w.heap.size) :
    Calls Tryz.prog 62 #[.slice (some ⟨g, 0, none⟩) len (len + 1), .slice a len cap] w fun e w' => e = .returned (.bool true) ∧ Below w.heap.size w w' := by
  by_cases h0 : len = 0
  · subst h0
    obtain rfl : l = [] := List.eq_nil_of_length_eq_zero h.len
    exact leftE_none g cap a w ht
  · rcases h.cells with h1 | ⟨b, off, rfl, hb, hc⟩
    · exact absurd h1 h0
    · exact leftE_some g b off len cap l w hc hb h.len hlen ht hg (by omega)
end Go.Proofs.YthmoinagfooncaaGreatDoor.Tr
