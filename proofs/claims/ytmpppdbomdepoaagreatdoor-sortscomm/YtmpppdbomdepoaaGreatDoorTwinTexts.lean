/- What TwinTexts, LeftTexts and TextsSize answer. -/
import Derived.Test.YtmpppdbomdepoaaGreatDoorTexts
import Derived.WalkSmall
import Derived.Laws.OwnMore
namespace Go.Proofs.YtmpppdbomdepoaaGreatDoor.Pa
open Go.RowKit

theorem one_new (w : World) (x : Value) (e : TypeId) : ∀ j u, [x][j]? = some u → (w.alloc (.cells #[x] e)).cell? ((⟨w.heap.size, 0, none⟩ : Addr).add j) = some u := by
  intro j u hj
  match j, hj with
  | 0, hj => simp at hj; subst hj; simp [Addr.add]
theorem one_one (s : ByteArray) : ∀ u ∈ [Value.string s], u.oneCell' = true := by
  intro u hu; simp at hu; subst hu; rfl
def spareB : ByteArray := { data := #[115, 112, 97, 114, 101] }
/-- a row with its last element let go -/
theorem own_less {w : World} {base : Nat} {e : TypeId} {s g n cap : Nat} {xs ys : List Value} (h : w.ownsRow base e s (.slice (some ⟨g, 0, none⟩) (n + 1) cap) (n + 1) (xs ++ ys)) (hx : xs.length = n * s) :
    w.ownsRow base e s (.slice (some ⟨g, 0, none⟩) n cap) n xs := by
  refine ⟨hx, ?_⟩
  rcases h.2 with ⟨h1, _⟩ | ⟨g', cap', cur, hv, hb, hg, h1, h2, h3, h4⟩
  · simp at h1
  · simp at hv
    obtain ⟨rfl, rfl⟩ := hv
    refine .inr ⟨g, cap, cur, rfl, hb, hg, by omega, h2, h3, ?_⟩
    have : (cur.toList.take ((n + 1) * s)).take (n * s) = cur.toList.take (n * s) := by
      rw [List.take_take]; congr 1; rw [Nat.add_mul]; omega
    rw [← this, h4, List.take_append_of_le_length (by omega), List.take_of_length_le (by omega)]
/-- the first k of the texts -/
def tk (ss : List ByteArray) (k : Nat) : List Value := (ss.take k).map Value.string
theorem tk_snoc {ss : List ByteArray} {k : Nat} (h : k < ss.length) : tk ss (k + 1) = tk ss k ++ [.string (ss.getD k ByteArray.empty)] := by
  unfold tk
  rw [List.take_add_one, List.getElem?_eq_getElem h, List.map_append]
  simp [List.getD, List.getElem?_eq_getElem h]
theorem tk_all {ss : List ByteArray} {k : Nat} (h : ss.length = k) : tk ss k = ss.map Value.string := by
  unfold tk
  rw [List.take_of_length_le (by omega)]

/-- the copy: the texts, and behind them the mark -/
def TwinT (w : World) (base g n : Nat) (ss : List ByteArray) : Prop :=
  w.ownsRow base 9 1 (.slice (some ⟨g, 0, none⟩) n (n + 1)) n (ss.map Value.string) ∧ w.cell? ⟨g, n, none⟩ = some (.string spareB)
theorem twinT_of {w : World} {base g n cap : Nat} {ss : List ByteArray} (hl : ss.length = n) (hc : cap = n + 1)
    (h : w.ownsRow base 9 1 (.slice (some ⟨g, 0, none⟩) (n + 1) cap) (n + 1) (ss.map Value.string ++ [.string spareB])) : TwinT w base g n ss := by
  subst hc
  refine ⟨own_less h (by simp [hl]), ?_⟩
  rw [h.cellAt n (by omega), List.getElem?_append_right (by simp [hl])]
  simp [hl]

set_option maxHeartbeats 800000 in
theorem twinTexts_some (b off len cap : Nat) (ss : List ByteArray) (w : World) (h : ∀ i, i < len → w.cell? ⟨b, off + i, none⟩ = some (.string (ss.getD i ByteArray.empty))) (hl : ss.length = len) (hb : b < w.heap.size) (hlen : len ≤ 1048576) :
    Calls Tryz.prog 20 #[.slice (some ⟨b, off, none⟩) len cap] w fun e w' => e = .returned (.slice (some ⟨w.heap.size, 0, none⟩) len (len + 1)) ∧ TwinT w' w.heap.size w.heap.size len ss ∧ Below w.heap.size w w' := by
  obtain ⟨i0, hi, hz0, hz1, hz2⟩ := info_parts Tryz.infoStr
  have HH := hide h
  have HL := hide hl
  clear h hl
  go_enter Tryz.func20, Tryz.ntmps20
  go_wp2_with (at_make; refine wpList_make_own _ rfl _ _ 25 rfl w.heap.size 9 i0 _ 1 Tryz.underlying25 hi hz0 hz1 _ _ _ (len + 1) rfl rfl (by omega) (by rw [hz2]; omega) (by unfold maxLen; omega) (Nat.le_refl _) ?_; intro w1 hown1 hgrow1)
  have hb1 : Below w.heap.size w w1 := (Below.refl _ _).grown hgrow1 (Nat.le_refl _) (by simp)
  clear hgrow1
  go_loopw [3, 4] (fun v i wr => ∃ k : Nat, k ≤ len ∧ i = .int .i64 k ∧ v = .slice (some ⟨w.heap.size, 0, none⟩) k (len + 1) ∧
      Hid (wr.ownsRow w.heap.size 9 1 (.slice (some ⟨w.heap.size, 0, none⟩) k (len + 1)) k (tk ss k)) ∧ Hid (Below w.heap.size w wr)) (fun _ i _ => len - (intOf i).toNat)
  case atStart => exact ⟨0, Nat.zero_le _, rfl, rfl, hown1, hb1⟩
  case round =>
    clear hown1 hb1
    obtain ⟨k, hk, rfl, rfl, hown, hnx⟩ := hrel
    have hsz := (unhide hnx).size
    have hlt0 := ((unhide hown).lt _ rfl).2
    by_cases hlt : k < len
    · have hc1 : wr.cell? ⟨b, off + k, none⟩ = some (.string (ss.getD k ByteArray.empty)) := ((unhide hnx).cell hb).trans (unhide HH k hlt)
      obtain ⟨x, hx⟩ : ∃ x, x = ss.getD k ByteArray.empty := ⟨_, rfl⟩
      rw [← hx] at hc1
      have HX := hide hx
      clear hx
      go_wp2_with (at_builtin; refine wpList_append_fits _ rfl _ _ 25 rfl w.heap.size 9 i0 1 Tryz.underlying25 hi hz1 w.heap.size k (len + 1) _ rfl ((unhide hown).alloc _) ⟨wr.heap.size, 0, none⟩ 1 1 [.string x] rfl rfl (one_new _ _ _) (one_one _) (by omega) ?_)
      intro w2 hown2 hgrow2
      have hb2 : Hid (Below w.heap.size w w2) := ((unhide hnx).alloc hsz _).grown hgrow2 (by simp; omega) (by simp)
      have ho2 : Hid (w2.ownsRow w.heap.size 9 1 (.slice (some ⟨w.heap.size, 0, none⟩) (k + 1) (len + 1)) (k + 1) (tk ss (k + 1))) := by
        rw [tk_snoc (by rw [unhide HL]; exact hlt), ← unhide HX]; exact hown2
      clear hgrow2 hc1 hown hnx hown2
      go_wp2
      go_roundw
      case rel => exact ⟨k + 1, by omega, by go_num, rfl, ho2, hb2⟩
      case measure => simp [intOf]; omega
    · have e : k = len := by omega
      subst e
      go_wp2_with (at_builtin; refine wpList_append_fits _ rfl _ _ 25 rfl w.heap.size 9 i0 1 Tryz.underlying25 hi hz1 w.heap.size k (k + 1) _ rfl ((unhide hown).alloc _) ⟨wr.heap.size, 0, none⟩ 1 1 [.string spareB] rfl rfl (one_new _ _ _) (one_one _) (by omega) ?_)
      intro w2 hown2 hgrow2
      have hb2 : Hid (Below w.heap.size w w2) := ((unhide hnx).alloc hsz _).grown hgrow2 (by simp; omega) (by simp)
      rw [tk_all (unhide HL)] at hown2
      have ht := hide (twinT_of (unhide HL) rfl hown2)
      clear hgrow2 hown hnx hown2
      go_wp2
      go_ret
      exact ⟨rfl, unhide ht, unhide hb2⟩

set_option maxHeartbeats 800000 in
theorem twinTexts_none (a : Option Addr) (cap : Nat) (w : World) :
    Calls Tryz.prog 20 #[.slice a 0 cap] w fun e w' => e = .returned (.slice (some ⟨w.heap.size, 0, none⟩) 0 1) ∧ TwinT w' w.heap.size w.heap.size 0 [] ∧ Below w.heap.size w w' := by
  obtain ⟨i0, hi, hz0, hz1, hz2⟩ := info_parts Tryz.infoStr
  go_enter Tryz.func20, Tryz.ntmps20
  go_wp2_with (at_make; refine wpList_make_own _ rfl _ _ 25 rfl w.heap.size 9 i0 _ 1 Tryz.underlying25 hi hz0 hz1 _ _ _ 1 rfl rfl (by omega) (by rw [hz2]; omega) (by unfold maxLen; omega) (Nat.le_refl _) ?_; intro w1 hown1 hgrow1)
  have hb1 : Below w.heap.size w w1 := (Below.refl _ _).grown hgrow1 (Nat.le_refl _) (by simp)
  have hs1 : w.heap.size < w1.heap.size := (hown1.lt _ rfl).2
  clear hgrow1
  refine wp_loop_rounds 1 ?_
  rw [rounds_succ]
  go_wp2_with (at_builtin; refine wpList_append_fits _ rfl _ _ 25 rfl w.heap.size 9 i0 1 Tryz.underlying25 hi hz1 w.heap.size 0 1 _ rfl (hown1.alloc _) ⟨w1.heap.size, 0, none⟩ 1 1 [.string spareB] rfl rfl (one_new _ _ _) (one_one _) (by omega) ?_)
  intro w2 hown2 hgrow2
  have hb2 : Below w.heap.size w w2 := (hb1.alloc (by omega) _).grown hgrow2 (by simp; omega) (by simp)
  have ht := hide (twinT_of (n := 0) (ss := []) rfl rfl hown2)
  clear hgrow2 hown2 hown1
  go_wp2
  go_ret
  exact ⟨rfl, unhide ht, hb2⟩

theorem twinTexts_any (a : Option Addr) (len cap : Nat) (ss : List ByteArray) (w : World) (h : Tx w a len cap ss) (hlen : len ≤ 1048576) :
    Calls Tryz.prog 20 #[.slice a len cap] w fun e w' => e = .returned (.slice (some ⟨w.heap.size, 0, none⟩) len (len + 1)) ∧ TwinT w' w.heap.size w.heap.size len ss ∧ Below w.heap.size w w' := by
  rcases h.cells with rfl | ⟨b, off, rfl, hb, hc⟩
  · obtain rfl : ss = [] := List.eq_nil_of_length_eq_zero h.len
    exact twinTexts_none a cap w
  · exact twinTexts_some b off len cap ss w hc h.len hb hlen

set_option maxHeartbeats 400000 in
theorem leftTexts_some (g b off len cap : Nat) (ss : List ByteArray) (w : World) (h : ∀ i, i < len → w.cell? ⟨b, off + i, none⟩ = some (.string (ss.getD i ByteArray.empty))) (ht : ∀ i, i < len → w.cell? ⟨g, i, none⟩ = some (.string (ss.getD i ByteArray.empty)))
    (hsp : w.cell? ⟨g, len, none⟩ = some (.string spareB)) (hlen : len ≤ 1048576) (hp : 0 < len) :
    Calls Tryz.prog 32 #[.slice (some ⟨g, 0, none⟩) len (len + 1), .slice (some ⟨b, off, none⟩) len cap] w fun e w' => e = .returned (.bool true) ∧ ∃ q, w' = w.drewN q := by
  go_enter Tryz.func32, Tryz.ntmps32
  go_wp2
  go_loopw [5] (fun i wr => ∃ k q : Nat, k ≤ len ∧ i = .int .i64 k ∧ wr = w.drewN q) (fun i _ => len - (intOf i).toNat)
  case atStart => exact ⟨0, 0, Nat.zero_le _, rfl, rfl⟩
  case round =>
    obtain ⟨k, q, hk, rfl, rfl⟩ := hrel
    by_cases hlt : k < len
    · have hlt' : (k : Int) < (len : Int) := by omega
      have hc1 := h k hlt
      have hc2 := ht k hlt
      obtain ⟨x, hx⟩ : ∃ x, x = ss.getD k ByteArray.empty := ⟨_, rfl⟩
      rw [← hx] at hc1 hc2
      clear hx
      go_wp2
      go_quiet (fail)
      go_wp2
      go_roundw
      case rel => exact ⟨k + 1, q + nq, by omega, by go_num, rfl⟩
      case measure => simp [intOf]; omega
    · obtain rfl : k = len := by omega
      have hspb : (spareB.toList == [115, 112, 97, 114, 101]) = true := by rw [ByteArray.toList_eq]; rfl
      go_wp2
      go_ret
      exact ⟨rfl, q, rfl⟩
set_option maxHeartbeats 400000 in
theorem leftTexts_none (g cap : Nat) (a : Option Addr) (w : World) (hsp : w.cell? ⟨g, 0, none⟩ = some (.string spareB)) :
    Calls Tryz.prog 32 #[.slice (some ⟨g, 0, none⟩) 0 1, .slice a 0 cap] w fun e w' => e = .returned (.bool true) ∧ w' = w := by
  have hspb : (spareB.toList == [115, 112, 97, 114, 101]) = true := by rw [ByteArray.toList_eq]; rfl
  go_enter Tryz.func32, Tryz.ntmps32
  go_wp2
  refine wp_loop_rounds 1 ?_
  rw [rounds_succ]
  go_wp2
  go_ret
  exact ⟨rfl, rfl⟩
theorem leftTexts_any (base g : Nat) (a : Option Addr) (len cap : Nat) (ss : List ByteArray) (w : World) (h : Tx w a len cap ss) (ht : TwinT w base g len ss) (hlen : len ≤ 1048576) :
    Calls Tryz.prog 32 #[.slice (some ⟨g, 0, none⟩) len (len + 1), .slice a len cap] w fun e w' => e = .returned (.bool true) ∧ Below w.heap.size w w' := by
  by_cases hp : len = 0
  · subst hp
    exact (leftTexts_none g cap a w ht.2).mono fun e w' ⟨h1, h2⟩ => ⟨h1, h2 ▸ Below.refl _ _⟩
  · rcases h.cells with hz | ⟨b, off, rfl, hb, hc⟩
    · exact absurd hz hp
    · refine (leftTexts_some g b off len cap ss w hc (fun i hi => ?_) ht.2 hlen (by omega)).mono fun e w' ⟨h1, q, h2⟩ => ⟨h1, h2 ▸ drewN_below w q⟩
      rw [ht.1.cellAt i (by omega), List.getElem?_map, List.getElem?_eq_getElem (by rw [h.len]; exact hi)]
      simp [List.getD, List.getElem?_eq_getElem (show i < ss.length by rw [h.len]; exact hi)]
end Go.Proofs.YtmpppdbomdepoaaGreatDoor.Pa
