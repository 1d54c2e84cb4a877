/- What TwinChanges and LeftChanges answer. -/
import Derived.Test.YtijknodbaddelaaMoList
namespace Go.Proofs.Ytijknodbaddelaa.Mo
open Go.RowKit

abbrev cm : Ch := ⟨0, 0, 77, 0, false⟩
/-- a copy at block g: the changes, and behind them the mark -/
def Twin (w : World) (g : Nat) (cs : List Ch) : Prop := (∀ i, i < cs.length → C5 w g (0 + i * 5) (cs.getD i cz)) ∧ C5 w g (cs.length * 5) cm
theorem Twin.below {w w' : World} {g : Nat} {cs : List Ch} (h : Twin w g cs) (hg : g < w.heap.size) (hb : Below w.heap.size w w') : Twin w' g cs :=
  ⟨fun i hi => (h.1 i hi).of fun _ => hb.cell hg, h.2.of fun _ => hb.cell hg⟩
theorem Twin.cg {w : World} {g : Nat} {cs : List Ch} (h : Twin w g cs) (hg : g < w.heap.size) : Cg w (some ⟨g, 0, none⟩) cs.length (cs.length + 1) cs :=
  ⟨rfl, by omega, by simp, .inr ⟨g, 0, rfl, hg, h.1⟩⟩
theorem twin_of_owns {w : World} {base g cap : Nat} {cs : List Ch} {n : Nat} (hn : n = cs.length) (h : w.ownsRow base 36 5 (.slice (some ⟨g, 0, none⟩) (n + 1) cap) (n + 1) (cl cs ++ cc cm)) : Twin w g cs := by
  subst hn
  have hl := cl_length cs
  have hc := h.cells (g := g) rfl
  have ha : ∀ j, (⟨g, 0, none⟩ : Addr).add j = ⟨g, j, none⟩ := by intro j; rw [add_none, Nat.zero_add]
  refine ⟨fun i hi => .at fun j u hj => ?_, .at fun j u hj => ?_⟩
  · have hj5 : j < 5 := (List.getElem?_eq_some_iff.1 hj).1
    rw [Nat.zero_add, ← ha]
    exact hc _ _ (by rw [List.getElem?_append_left (by omega), cl_get cs i j hi hj5]; exact hj)
  · rw [← ha]; exact hc _ _ (by rw [List.getElem?_append_right (by omega), hl, Nat.add_sub_cancel_left]; exact hj)

set_option maxHeartbeats 1000000 in
set_option maxRecDepth 100000 in
theorem twin_some (b off len cap : Nat) (cs : List Ch) (w : World) (h : ∀ i, i < len → C5 w b (off + i * 5) (cs.getD i cz)) (hb : b < w.heap.size) (hl : cs.length = len) (hlen : len ≤ 1048576) :
    Calls Try.prog 6 #[.slice (some ⟨b, off, none⟩) len cap] w fun e w' => e = .returned (.slice (some ⟨w.heap.size, 0, none⟩) len (len + 1)) ∧ Twin w' w.heap.size cs ∧ Below w.heap.size w w' ∧ w.heap.size < w'.heap.size := by
  obtain ⟨i0, hi, hz0, hz1, hz2⟩ := info_parts Try.infoCh
  have HC := hide h
  have HL := hide hl
  clear h hl
  go_enter Try.func6, Try.ntmps6
  go_wp2_with (at_make; refine wpList_make_own _ rfl _ _ 22 rfl w.heap.size 36 i0 _ 5 Try.underlying22 hi hz0 hz1 _ _ _ (len + 1) rfl rfl (by omega) (by rw [hz2]; omega) (by unfold maxLen; omega) (Nat.le_refl _) ?_; intro w1 hown1 hgrow1)
  have hb1 : Below w.heap.size w w1 := (Below.refl _ _).grown hgrow1 (Nat.le_refl _) (by simp)
  have hs1 : w.heap.size < w1.heap.size := (hown1.lt _ rfl).2
  clear hgrow1
  go_loopw [3, 4] (fun v i wr => ∃ k : Nat, k ≤ len ∧ i = .int .i64 k ∧ v = .slice (some ⟨w.heap.size, 0, none⟩) k (len + 1) ∧
      Hid (wr.ownsRow w.heap.size 36 5 (.slice (some ⟨w.heap.size, 0, none⟩) k (len + 1)) k (cl (cs.take k))) ∧ Hid (Below w.heap.size w wr)) (fun _ i _ => len - (intOf i).toNat)
  case atStart => exact ⟨0, Nat.zero_le _, rfl, rfl, hown1, hb1⟩
  case round =>
    clear hown1 hb1 hs1
    obtain ⟨k, hk, rfl, rfl, hown, hnx⟩ := hrel
    have hsz := (unhide hnx).size
    have hlt0 := ((unhide hown).lt _ rfl).2
    by_cases hlt : k < len
    · have hc := (unhide HC k hlt).of fun o => (unhide hnx).cell (p := ⟨b, o, none⟩) hb
      have hc0 := hc.c0
      have hc1 := hc.c1
      have hc2 := hc.c2
      have hc3 := hc.c3
      have hc4 := hc.c4
      have hd := hide (take_at cs k (by rw [unhide HL]; exact hlt))
      obtain ⟨c, hx⟩ : ∃ c, c = cs.getD k cz := ⟨_, rfl⟩
      rw [← hx] at hc0 hc1 hc2 hc3 hc4 hd
      clear hx hc
      obtain ⟨who, op, bts, cp, dirs⟩ := c
      simp only at hc0 hc1 hc2 hc3 hc4
      go_wp2_with (at_builtin; refine wpList_append_fits _ rfl _ _ 22 rfl w.heap.size 36 i0 5 Try.underlying22 hi hz1 w.heap.size k (len + 1) _ rfl ((unhide hown).alloc _) ⟨wr.heap.size, 0, none⟩ 1 1 (cc ⟨who, op, bts, cp, dirs⟩) rfl rfl (by exact five_new _ _ _) (five_one _) (by omega) ?_)
      intro w2 hown2 hgrow2
      have hb2 : Hid (Below w.heap.size w w2) := ((unhide hnx).alloc hsz _).grown hgrow2 (by simp; omega) (by simp)
      have ho2 : Hid (w2.ownsRow w.heap.size 36 5 (.slice (some ⟨w.heap.size, 0, none⟩) (k + 1) (len + 1)) (k + 1) (cl (cs.take (k + 1)))) := by rw [unhide hd, cl_snoc]; exact hown2
      clear hgrow2 hc0 hc1 hc2 hc3 hc4 hown hnx hown2 hd
      go_wp2
      go_roundw
      case rel => exact ⟨k + 1, by omega, by go_num, rfl, ho2, hb2⟩
      case measure => simp [intOf]; omega
    · have e : k = len := by omega
      subst e
      have ht : cs.take k = cs := List.take_of_length_le (by rw [unhide HL]; omega)
      rw [ht] at hown
      go_wp2_with (at_builtin; refine wpList_append_fits _ rfl _ _ 22 rfl w.heap.size 36 i0 5 Try.underlying22 hi hz1 w.heap.size k (k + 1) _ rfl ((unhide hown).alloc _) ⟨wr.heap.size, 0, none⟩ 1 1 (cc cm) rfl rfl (by exact five_new _ cm _) (five_one _) (by omega) ?_)
      intro w2 hown2 hgrow2
      have hb2 : Below w.heap.size w w2 := ((unhide hnx).alloc hsz _).grown hgrow2 (by simp; omega) (by simp)
      have hs2 : w.heap.size < w2.heap.size := (hown2.lt _ rfl).2
      have htw := twin_of_owns (unhide HL).symm hown2
      clear hgrow2 hown2
      go_wp2
      go_ret
      exact ⟨rfl, htw, hb2, hs2⟩
set_option maxHeartbeats 800000 in
set_option maxRecDepth 100000 in
theorem twin_none (a : Option Addr) (cap : Nat) (w : World) :
    Calls Try.prog 6 #[.slice a 0 cap] w fun e w' => e = .returned (.slice (some ⟨w.heap.size, 0, none⟩) 0 (0 + 1)) ∧ Twin w' w.heap.size [] ∧ Below w.heap.size w w' ∧ w.heap.size < w'.heap.size := by
  obtain ⟨i0, hi, hz0, hz1, hz2⟩ := info_parts Try.infoCh
  go_enter Try.func6, Try.ntmps6
  go_wp2_with (at_make; refine wpList_make_own _ rfl _ _ 22 rfl w.heap.size 36 i0 _ 5 Try.underlying22 hi hz0 hz1 _ _ _ (0 + 1) rfl rfl (by omega) (by rw [hz2]; omega) (by unfold maxLen; omega) (Nat.le_refl _) ?_; intro w1 hown1 hgrow1)
  have hb1 : Below w.heap.size w w1 := (Below.refl _ _).grown hgrow1 (Nat.le_refl _) (by simp)
  have hs1 : w.heap.size < w1.heap.size := (hown1.lt _ rfl).2
  clear hgrow1
  refine wp_loop_rounds 1 ?_
  rw [rounds_succ]
  go_wp2_with (at_builtin; refine wpList_append_fits _ rfl _ _ 22 rfl w.heap.size 36 i0 5 Try.underlying22 hi hz1 w.heap.size 0 (0 + 1) _ rfl (hown1.alloc _) ⟨w1.heap.size, 0, none⟩ 1 1 (cc cm) rfl rfl (by exact five_new _ cm _) (five_one _) (by omega) ?_)
  intro w2 hown2 hgrow2
  have hb2 : Below w.heap.size w w2 := (hb1.alloc hb1.size _).grown hgrow2 (by simp; omega) (by simp)
  have hs2 : w.heap.size < w2.heap.size := (hown2.lt _ rfl).2
  have htw := twin_of_owns (cs := []) rfl hown2
  clear hgrow2 hown2
  go_wp2
  go_ret
  exact ⟨rfl, htw, hb2, hs2⟩
theorem twin_any (a : Option Addr) (len cap c' : Nat) (cs : List Ch) (w : World) (h : Cg w a len c' cs) (hlen : len ≤ 1048576) :
    Calls Try.prog 6 #[.slice a len cap] w fun e w' => e = .returned (.slice (some ⟨w.heap.size, 0, none⟩) len (len + 1)) ∧ Twin w' w.heap.size cs ∧ Below w.heap.size w w' ∧ w.heap.size < w'.heap.size := by
  rcases h.cells with rfl | ⟨b, off, rfl, hb, hc⟩
  · obtain rfl : cs = [] := List.eq_nil_of_length_eq_zero h.len
    exact twin_none a cap w
  · exact twin_some b off len cap cs w hc hb h.len hlen

set_option maxHeartbeats 1000000 in
set_option maxRecDepth 100000 in
theorem left_some (g b off len cap : Nat) (cs : List Ch) (w : World) (h : ∀ i, i < len → C5 w b (off + i * 5) (cs.getD i cz)) (hb : b < w.heap.size) (hl : cs.length = len) (hlen : len ≤ 1048576) (ht : Twin w g cs) (hg : g < w.heap.size) (hp : 0 < len) :
    Calls Try.prog 9 #[.slice (some ⟨g, 0, none⟩) len (len + 1), .slice (some ⟨b, off, none⟩) len cap] w fun e w' => e = .returned (.bool true) ∧ Below w.heap.size w w' := by
  have HC := hide h
  have HT := hide ht
  rw [← hl] at HC
  have HL := hide hl
  clear h ht hl
  go_enter Try.func9, Try.ntmps9
  go_wp2
  go_loopw [5] (fun i wr => ∃ k : Nat, k ≤ len ∧ i = .int .i64 k ∧ Below w.heap.size w wr) (fun i _ => len - (intOf i).toNat)
  case atStart => exact ⟨0, Nat.zero_le _, rfl, Below.refl _ _⟩
  case round =>
    obtain ⟨k, hk, rfl, hnx⟩ := hrel
    have hsz := hnx.size
    by_cases hlt : k < len
    · have hlt' : (k : Int) < (len : Int) := by omega
      have hkl : k < cs.length := by rw [unhide HL]; exact hlt
      have hc := (unhide HC k hkl).of fun o => hnx.cell (p := ⟨b, o, none⟩) hb
      have hd := ((unhide HT).1 k hkl).of fun o => hnx.cell (p := ⟨g, o, none⟩) hg
      have hc0 := hc.c0
      have hc1 := hc.c1
      have hc2 := hc.c2
      have hc3 := hc.c3
      have hc4 := hc.c4
      have hd0 := hd.c0
      have hd1 := hd.c1
      have hd2 := hd.c2
      have hd3 := hd.c3
      have hd4 := hd.c4
      rw [Nat.zero_add] at hd0 hd1 hd2 hd3 hd4
      obtain ⟨c, hx⟩ : ∃ c, c = cs.getD k cz := ⟨_, rfl⟩
      rw [← hx] at hc0 hc1 hc2 hc3 hc4 hd0 hd1 hd2 hd3 hd4
      clear hx hkl hc hd
      obtain ⟨who, op, bts, cp, dirs⟩ := c
      simp only at hc0 hc1 hc2 hc3 hc4 hd0 hd1 hd2 hd3 hd4
      go_wp2
      go_quiet (fail)
      go_wp2
      go_roundw
      case rel => exact ⟨k + 1, by omega, by go_num, below_drewN hnx _⟩
      case measure => simp [intOf]; omega
    · have e : k = len := by omega
      subst e
      have hd := (unhide HT).2.of fun o => hnx.cell (p := ⟨g, o, none⟩) hg
      have hd0 := hd.c0
      have hd1 := hd.c1
      have hd2 := hd.c2
      have hd3 := hd.c3
      have hd4 := hd.c4
      rw [unhide HL] at hd0 hd1 hd2 hd3 hd4
      clear hd
      go_wp2
      go_ret
      exact ⟨rfl, by repeat (first | exact hnx | apply Below.setCell | apply Below.alloc | simpa using hsz)⟩
set_option maxHeartbeats 400000 in
set_option maxRecDepth 100000 in
theorem left_none (g cap : Nat) (a : Option Addr) (w : World) (ht : Twin w g []) :
    Calls Try.prog 9 #[.slice (some ⟨g, 0, none⟩) 0 1, .slice a 0 cap] w fun e w' => e = .returned (.bool true) ∧ Below w.heap.size w w' := by
  obtain ⟨_, hd⟩ := ht
  have hd0 := hd.c0
  have hd1 := hd.c1
  have hd2 := hd.c2
  have hd3 := hd.c3
  have hd4 := hd.c4
  simp only [List.length_nil, Nat.zero_mul, Nat.zero_add] at hd0 hd1 hd2 hd3 hd4
  clear hd
  go_enter Try.func9, Try.ntmps9
  go_wp2
  refine wp_loop_rounds 1 ?_
  rw [rounds_succ]
  go_wp2
  go_ret
  exact ⟨rfl, by repeat (first | exact Below.refl _ _ | apply Below.setCell | apply Below.alloc | simp)⟩
theorem left_any (g : Nat) (a : Option Addr) (len cap c' : Nat) (cs : List Ch) (w : World) (h : Cg w a len c' cs) (hlen : len ≤ 1048576) (ht : Twin w g cs) (hg : g < w.heap.size) :
    Calls Try.prog 9 #[.slice (some ⟨g, 0, none⟩) len (len + 1), .slice a len cap] w fun e w' => e = .returned (.bool true) ∧ Below w.heap.size w w' := by
  by_cases h0 : len = 0
  · subst h0
    obtain rfl : cs = [] := List.eq_nil_of_length_eq_zero h.len
    exact left_none g cap a w ht
  · rcases h.cells with h1 | ⟨b, off, rfl, hb, hc⟩
    · exact absurd h1 h0
    · exact left_some g b off len cap cs w hc hb h.len hlen ht hg (by omega)
end Go.Proofs.Ytijknodbaddelaa.Mo
