/- What TwinBytes and LeftBytes answer. -/
import Derived.Test.YtbofidpoajdcmaaGreatDoorTrPlain
import Derived.Room.AppendFits
import Derived.Laws.OwnMore
import Derived.WalkSmall
set_option linter.unusedVariables false
namespace Go.Proofs.YtbofidpoajdcmaaGreatDoor.Tr
open Go.RowKit Cu

theorem Tryz.infoB : (Tryz.prog.info? 5).map (fun i => (i.zero, i.size, i.bytes)) = some (some (.int .u8 0), 1, 1) := by kernel_rfl
def bc (l : Bs) : List Value := l.map fun c => .int .u8 c.toNat
theorem bs_take (l : Bs) (k : Nat) (h : k < l.length) : l.take (k + 1) = l.take k ++ [l.getD k 0] := by
  rw [List.take_succ_eq_append_getElem h]; simp [List.getD, List.getElem?_eq_getElem h]
/-- a copy of bytes at block g, and behind them the mark -/
def TwB (w : World) (g : Nat) (l : Bs) : Prop := (∀ i, i < l.length → w.cell? ⟨g, i, none⟩ = some (.int .u8 (l.getD i 0).toNat)) ∧ w.cell? ⟨g, l.length, none⟩ = some (.int .u8 77)
theorem TwB.below {w w' : World} {g : Nat} {l : Bs} (h : TwB w g l) (hg : g < w.heap.size) (hb : Below w.heap.size w w') : TwB w' g l :=
  ⟨fun i hi => (hb.cell hg).trans (h.1 i hi), (hb.cell hg).trans h.2⟩
theorem TwB.bytes {w : World} {g : Nat} {l : Bs} (h : TwB w g l) (hg : g < w.heap.size) : By w (some ⟨g, 0, none⟩) l.length (l.length + 1) l :=
  ⟨rfl, by omega, by simp, .inr ⟨g, 0, rfl, hg, fun i hi => by rw [Nat.zero_add]; exact h.1 i hi⟩⟩
theorem twB_of {w : World} {base g cap : Nat} {l : Bs} {n : Nat} (hn : n = l.length) (h : w.ownsRow base 5 1 (.slice (some ⟨g, 0, none⟩) (n + 1) cap) (n + 1) (bc l ++ [.int .u8 77])) : TwB w g l := by
  subst hn
  have hl : (bc l).length = l.length := by simp [bc]
  have hc := h.cells (g := g) rfl
  have ha : ∀ j, (⟨g, 0, none⟩ : Addr).add j = ⟨g, j, none⟩ := by intro j; rw [Addr.add_lit, Nat.zero_add]
  refine ⟨fun i hi => ?_, ?_⟩
  · rw [← ha]; exact hc _ _ (by rw [List.getElem?_append_left (by omega)]; simp [bc, List.getD, List.getElem?_eq_getElem hi])
  · rw [← ha]; exact hc _ _ (by rw [List.getElem?_append_right (by omega), hl, Nat.sub_self]; rfl)
set_option maxHeartbeats 1000000 in
set_option maxRecDepth 100000 in
theorem twinB_some (b off len cap : Nat) (l : Bs) (w : World) (h : ∀ i, i < len → w.cell? ⟨b, off + i, none⟩ = some (.int .u8 (l.getD i 0).toNat)) (hb : b < w.heap.size) (hl : l.length = len) (hlen : len ≤ 140737488351232) :
    Calls Tryz.prog 16 #[.slice (some ⟨b, off, none⟩) len cap] w fun e w' => e = .returned (.slice (some ⟨w.heap.size, 0, none⟩) len (len + 1)) ∧ TwB w' w.heap.size l ∧ Below w.heap.size w w' ∧ w.heap.size < w'.heap.size := by
  obtain ⟨i0, hi, hz0, hz1, hz2⟩ := info_parts Tryz.infoB
  have HC := hide h
  have HL := hide hl
  clear h hl
  go_enter Tryz.func16, Tryz.ntmps16
  go_wp2_with (at_make; refine wpList_make_own _ rfl _ _ 23 rfl w.heap.size 5 i0 _ 1 Tryz.underlying23 hi hz0 hz1 _ _ _ (len + 1) rfl rfl (by omega) (by rw [hz2]; omega) (by unfold maxLen; omega) (Nat.le_refl _) ?_; intro w1 hown1 hgrow1)
  have hb1 : Below w.heap.size w w1 := (Below.refl _ _).grown hgrow1 (Nat.le_refl _) (by simp)
  have hs1 : w.heap.size < w1.heap.size := (hown1.lt _ rfl).2
  clear hgrow1
  go_loopw [3, 4] (fun v i wr => ∃ k : Nat, k ≤ len ∧ i = .int .i64 k ∧ v = .slice (some ⟨w.heap.size, 0, none⟩) k (len + 1) ∧
      Hid (wr.ownsRow w.heap.size 5 1 (.slice (some ⟨w.heap.size, 0, none⟩) k (len + 1)) k (bc (l.take k))) ∧ Hid (Below w.heap.size w wr)) (fun _ i _ => len - (intOf i).toNat)
  case atStart => exact ⟨0, Nat.zero_le _, rfl, rfl, hown1, hb1⟩
  case round =>
    clear hown1 hb1 hs1
    obtain ⟨k, hk, rfl, rfl, hown, hnx⟩ := hrel
    have hsz := (unhide hnx).size
    have hlt0 := ((unhide hown).lt _ rfl).2
    by_cases hlt : k < len
    · have hc0 := ((unhide hnx).cell (p := ⟨b, off + k, none⟩) hb).trans (unhide HC k hlt)
      have hd := hide (bs_take l k (by rw [unhide HL]; exact hlt))
      obtain ⟨c, hx⟩ : ∃ c, c = l.getD k 0 := ⟨_, rfl⟩
      rw [← hx] at hd
      rw [← hx] at hc0
      clear hx
      go_wp2_with (at_builtin; refine wpList_append_fits _ rfl _ _ 23 rfl w.heap.size 5 i0 1 Tryz.underlying23 hi hz1 w.heap.size k (len + 1) _ rfl ((unhide hown).alloc _) ⟨wr.heap.size, 0, none⟩ 1 1 [.int .u8 c.toNat] rfl rfl (by exact byte_new _ _ _) (by exact byte_one _) (by omega) ?_)
      intro w2 hown2 hgrow2
      have hb2 : Hid (Below w.heap.size w w2) := ((unhide hnx).alloc hsz _).grown hgrow2 (by simp; omega) (by simp)
      have ho2 : Hid (w2.ownsRow w.heap.size 5 1 (.slice (some ⟨w.heap.size, 0, none⟩) (k + 1) (len + 1)) (k + 1) (bc (l.take (k + 1)))) := by
        have e : bc (l.take (k + 1)) = bc (l.take k) ++ bc [c] := by rw [unhide hd]; simp [bc]
        rw [e]; exact hown2
      clear hgrow2 hown hnx hown2 hd
      go_wp2
      go_roundw
      case rel => exact ⟨k + 1, by omega, by go_num, rfl, ho2, hb2⟩
      case measure => simp [intOf]; omega
    · have e : k = len := by omega
      subst e
      have ht : l.take k = l := List.take_of_length_le (by rw [unhide HL]; omega)
      rw [ht] at hown
      go_wp2_with (at_builtin; refine wpList_append_fits _ rfl _ _ 23 rfl w.heap.size 5 i0 1 Tryz.underlying23 hi hz1 w.heap.size k (k + 1) _ rfl ((unhide hown).alloc _) ⟨wr.heap.size, 0, none⟩ 1 1 [.int .u8 77] rfl rfl (by exact byte_new _ _ _) (by exact byte_one _) (by omega) ?_)
      intro w2 hown2 hgrow2
      have hb2 : Below w.heap.size w w2 := ((unhide hnx).alloc hsz _).grown hgrow2 (by simp; omega) (by simp)
      have hs2 : w.heap.size < w2.heap.size := (hown2.lt _ rfl).2
      have htw := twB_of (unhide HL).symm hown2
      clear hgrow2 hown2
      go_wp2
      go_ret
      exact ⟨rfl, htw, hb2, hs2⟩
set_option maxHeartbeats 800000 in
set_option maxRecDepth 100000 in
theorem twinB_none (a : Option Addr) (cap : Nat) (w : World) :
    Calls Tryz.prog 16 #[.slice a 0 cap] w fun e w' => e = .returned (.slice (some ⟨w.heap.size, 0, none⟩) 0 (0 + 1)) ∧ TwB w' w.heap.size [] ∧ Below w.heap.size w w' ∧ w.heap.size < w'.heap.size := by
  obtain ⟨i0, hi, hz0, hz1, hz2⟩ := info_parts Tryz.infoB
  go_enter Tryz.func16, Tryz.ntmps16
  go_wp2_with (at_make; refine wpList_make_own _ rfl _ _ 23 rfl w.heap.size 5 i0 _ 1 Tryz.underlying23 hi hz0 hz1 _ _ _ (0 + 1) rfl rfl (by omega) (by rw [hz2]; omega) (by unfold maxLen; omega) (Nat.le_refl _) ?_; intro w1 hown1 hgrow1)
  have hb1 : Below w.heap.size w w1 := (Below.refl _ _).grown hgrow1 (Nat.le_refl _) (by simp)
  have hs1 : w.heap.size < w1.heap.size := (hown1.lt _ rfl).2
  clear hgrow1
  refine wp_loop_rounds 1 ?_
  rw [rounds_succ]
  go_wp2_with (at_builtin; refine wpList_append_fits _ rfl _ _ 23 rfl w.heap.size 5 i0 1 Tryz.underlying23 hi hz1 w.heap.size 0 (0 + 1) _ rfl (hown1.alloc _) ⟨w1.heap.size, 0, none⟩ 1 1 [.int .u8 77] rfl rfl (by exact byte_new _ _ _) (by exact byte_one _) (by omega) ?_)
  intro w2 hown2 hgrow2
  have hb2 : Below w.heap.size w w2 := (hb1.alloc hb1.size _).grown hgrow2 (by simp; omega) (by simp)
  have hs2 : w.heap.size < w2.heap.size := (hown2.lt _ rfl).2
  have htw := twB_of (l := []) rfl hown2
  clear hgrow2 hown2
  go_wp2
  go_ret
  exact ⟨rfl, htw, hb2, hs2⟩
theorem twinB_any (a : Option Addr) (len cap : Nat) (l : Bs) (w : World) (h : By w a len cap l) (hlen : len ≤ 140737488351232) :
    Calls Tryz.prog 16 #[.slice a len cap] w fun e w' => e = .returned (.slice (some ⟨w.heap.size, 0, none⟩) len (len + 1)) ∧ TwB w' w.heap.size l ∧ Below w.heap.size w w' ∧ w.heap.size < w'.heap.size := by
  rcases h.cells with rfl | ⟨b, off, rfl, hb, hc⟩
  · obtain rfl : l = [] := List.eq_nil_of_length_eq_zero h.len
    exact twinB_none a cap w
  · exact twinB_some b off len cap l w hc hb h.len hlen

set_option maxHeartbeats 400000 in
set_option maxRecDepth 100000 in
theorem leftB_some (g b off n cap : Nat) (l : Bs) (w : World) (h : ∀ i, i < n → w.cell? ⟨b, off + i, none⟩ = some (.int .u8 (l.getD i 0).toNat)) (hl : l.length = n) (hT : TwB w g l) (hlen : n ≤ 140737488351232) :
    Calls Tryz.prog 20 #[.slice (some ⟨g, 0, none⟩) n (n + 1), .slice (some ⟨b, off, none⟩) n cap] w fun e w' => e = .returned (.bool true) ∧ Below w.heap.size w w' := by
  have hsp := hT.2
  rw [hl] at hsp
  have HT : Hid (∀ i, i < n → w.cell? ⟨g, i, none⟩ = some (.int .u8 (l.getD i 0).toNat)) := fun i hi => hT.1 i (by omega)
  have HB := hide h
  clear hT h hl
  go_enter Tryz.func20, Tryz.ntmps20
  go_wp2
  go_loopw [5] (fun i wr => ∃ k q : Nat, k ≤ n ∧ i = .int .i64 k ∧ wr = w.drewN q) (fun i _ => n - (intOf i).toNat)
  case atStart => exact ⟨0, 0, Nat.zero_le _, rfl, rfl⟩
  case round =>
    obtain ⟨k, q, hk, rfl, rfl⟩ := hrel
    by_cases hlt : k < n
    · have hlt' : (k : Int) < (n : Int) := by omega
      have hc1 := unhide HB k hlt
      have hc2 := unhide HT k hlt
      obtain ⟨x, hx⟩ : ∃ x, x = ((l.getD k 0).toNat : Int) := ⟨_, rfl⟩
      rw [← hx] at hc1 hc2
      clear hx
      go_wp2
      go_quiet (fail)
      go_wp2
      go_roundw
      case rel => exact ⟨k + 1, q + nq, by omega, by go_num, rfl⟩
      case measure => simp [intOf]; omega
    · go_wp2
      go_ret
      exact ⟨rfl, below_drewN (Below.refl _ _) q⟩
set_option maxHeartbeats 400000 in
set_option maxRecDepth 100000 in
theorem leftB_none (g cap : Nat) (a : Option Addr) (w : World) (hT : TwB w g []) :
    Calls Tryz.prog 20 #[.slice (some ⟨g, 0, none⟩) 0 1, .slice a 0 cap] w fun e w' => e = .returned (.bool true) ∧ Below w.heap.size w w' := by
  have hsp := hT.2
  rw [List.length_nil] at hsp
  clear hT
  go_enter Tryz.func20, Tryz.ntmps20
  go_wp2
  refine wp_loop_rounds 1 ?_
  rw [rounds_succ]
  go_wp2
  go_ret
  exact ⟨rfl, Below.refl _ _⟩
theorem leftB_any (a : Option Addr) (g n cap c' : Nat) (l : Bs) (w : World) (hB : By w a n c' l) (hT : TwB w g l) (hlen : n ≤ 140737488351232) :
    Calls Tryz.prog 20 #[.slice (some ⟨g, 0, none⟩) n (n + 1), .slice a n cap] w fun e w' => e = .returned (.bool true) ∧ Below w.heap.size w w' := by
  rcases hB.cells with h0 | ⟨b, off, rfl, _, hc⟩
  · subst h0
    obtain rfl : l = [] := List.eq_nil_of_length_eq_zero hB.len
    exact leftB_none g cap a w hT
  · exact leftB_some g b off n cap l w hc hB.len hT hlen
end Go.Proofs.YtbofidpoajdcmaaGreatDoor.Tr
