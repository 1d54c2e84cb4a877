/- What TwinRanges, LeftRanges and the document's Has answer. -/
import Derived.Test.YtpfdjnnnemkoiaaCuList
namespace Go.Proofs.Ytpfdjnnnemkoiaa.Ls
open Go.RowKit

/-! ### a copy with a mark behind it -/
/-- a copy at block g: the ranges, and behind them the mark -/
def Twin (w : World) (g : Nat) (rs : List R) : Prop :=
  (∀ i, i < rs.length → w.cell? ⟨g, 0 + i * 2, none⟩ = some (.int .i64 (rs.getD i rz).1) ∧ w.cell? ⟨g, 0 + i * 2 + 1, none⟩ = some (.int .i64 (rs.getD i rz).2)) ∧ w.cell? ⟨g, rs.length * 2, none⟩ = some (.int .i64 77) ∧ w.cell? ⟨g, rs.length * 2 + 1, none⟩ = some (.int .i64 0)
theorem Twin.below {w w' : World} {g : Nat} {rs : List R} (h : Twin w g rs) (hg : g < w.heap.size) (hb : Below w.heap.size w w') : Twin w' g rs :=
  ⟨fun i hi => ⟨(hb.cell hg).trans (h.1 i hi).1, (hb.cell hg).trans (h.1 i hi).2⟩, (hb.cell hg).trans h.2.1, (hb.cell hg).trans h.2.2⟩
theorem Twin.rg {w : World} {g : Nat} {rs : List R} (h : Twin w g rs) (hg : g < w.heap.size) : Rg w (some ⟨g, 0, none⟩) rs.length (rs.length + 1) rs :=
  ⟨rfl, by omega, by simp, .inr ⟨g, 0, rfl, hg, h.1⟩⟩
theorem twin_of_owns {w : World} {base g cap : Nat} {rs : List R} {n : Nat} (hn : n = rs.length) (h : w.ownsRow base 38 2 (.slice (some ⟨g, 0, none⟩) (n + 1) cap) (n + 1) (rc rs ++ [.int .i64 77, .int .i64 0])) : Twin w g rs := by
  subst hn
  have hl := rc_length rs
  have hc := h.cells (g := g) rfl
  have ha : ∀ j, (⟨g, 0, none⟩ : Addr).add j = ⟨g, j, none⟩ := by intro j; rw [add_none, Nat.zero_add]
  refine ⟨fun i hi => ?_, ?_, ?_⟩
  · obtain ⟨h1, h2⟩ := rc_get rs i hi
    refine ⟨?_, ?_⟩
    · rw [Nat.zero_add, ← ha]; exact hc _ _ (by rw [List.getElem?_append_left (by omega)]; exact h1)
    · rw [Nat.zero_add, ← ha]; exact hc _ _ (by rw [List.getElem?_append_left (by omega)]; exact h2)
  · rw [← ha]; exact hc _ _ (by rw [List.getElem?_append_right (by omega), hl]; simp)
  · rw [← ha]; exact hc _ _ (by rw [List.getElem?_append_right (by omega), hl]; simp)

set_option maxHeartbeats 800000 in
theorem twin_some (b off len cap : Nat) (rs : List R) (w : World) (h : ∀ i, i < len → w.cell? ⟨b, off + i * 2, none⟩ = some (.int .i64 (rs.getD i rz).1) ∧ w.cell? ⟨b, off + i * 2 + 1, none⟩ = some (.int .i64 (rs.getD i rz).2)) (hb : b < w.heap.size) (hl : rs.length = len) (hlen : len ≤ 1048576) :
    Calls Try.prog 7 #[.slice (some ⟨b, off, none⟩) len cap] w fun e w' => e = .returned (.slice (some ⟨w.heap.size, 0, none⟩) len (len + 1)) ∧ Twin w' w.heap.size rs ∧ Below w.heap.size w w' ∧ w.heap.size < w'.heap.size := by
  obtain ⟨i0, hi, hz0, hz1, hz2⟩ := info_parts Try.infoRange
  have HC := hide h
  have HL := hide hl
  clear h hl
  go_enter Try.func7, Try.ntmps7
  go_wp2_with (at_make; refine wpList_make_own _ rfl _ _ 22 rfl w.heap.size 38 i0 _ 2 Try.underlying22 hi hz0 hz1 _ _ _ (len + 1) rfl rfl (by omega) (by rw [hz2]; omega) (by unfold maxLen; omega) (Nat.le_refl _) ?_; intro w1 hown1 hgrow1)
  have hb1 : Below w.heap.size w w1 := (Below.refl _ _).grown hgrow1 (Nat.le_refl _) (by simp)
  have hs1 : w.heap.size < w1.heap.size := (hown1.lt _ rfl).2
  clear hgrow1
  go_loopw [3, 4] (fun v i wr => ∃ k : Nat, k ≤ len ∧ i = .int .i64 k ∧ v = .slice (some ⟨w.heap.size, 0, none⟩) k (len + 1) ∧
      Hid (wr.ownsRow w.heap.size 38 2 (.slice (some ⟨w.heap.size, 0, none⟩) k (len + 1)) k (rc (rs.take k))) ∧ Hid (Below w.heap.size w wr)) (fun _ i _ => len - (intOf i).toNat)
  case atStart => exact ⟨0, Nat.zero_le _, rfl, rfl, hown1, hb1⟩
  case round =>
    clear hown1 hb1 hs1
    obtain ⟨k, hk, rfl, rfl, hown, hnx⟩ := hrel
    have hsz := (unhide hnx).size
    have hlt0 := ((unhide hown).lt _ rfl).2
    by_cases hlt : k < len
    · have hc1 := ((unhide hnx).cell (p := ⟨b, off + k * 2, none⟩) hb).trans (unhide HC k hlt).1
      have hc2 := ((unhide hnx).cell (p := ⟨b, off + k * 2 + 1, none⟩) hb).trans (unhide HC k hlt).2
      have hd := hide (take_at rs k (by rw [unhide HL]; exact hlt))
      obtain ⟨r, hx⟩ : ∃ r, r = rs.getD k rz := ⟨_, rfl⟩
      rw [← hx] at hc1 hc2 hd
      clear hx
      obtain ⟨x, y⟩ := r
      simp only at hc1 hc2
      go_wp2_with (at_builtin; refine wpList_append_fits _ rfl _ _ 22 rfl w.heap.size 38 i0 2 Try.underlying22 hi hz1 w.heap.size k (len + 1) _ rfl ((unhide hown).alloc _) ⟨wr.heap.size, 0, none⟩ 1 1 [.int .i64 x, .int .i64 y] rfl rfl (pair_new _ _ _ _) (pair_one _ _) (by omega) ?_)
      intro w2 hown2 hgrow2
      have hb2 : Hid (Below w.heap.size w w2) := ((unhide hnx).alloc hsz _).grown hgrow2 (by simp; omega) (by simp)
      have ho2 : Hid (w2.ownsRow w.heap.size 38 2 (.slice (some ⟨w.heap.size, 0, none⟩) (k + 1) (len + 1)) (k + 1) (rc (rs.take (k + 1)))) := by rw [unhide hd, rc_snoc]; exact hown2
      clear hgrow2 hc1 hc2 hown hnx hown2 hd
      go_wp2
      go_roundw
      case rel => exact ⟨k + 1, by omega, by go_num, rfl, ho2, hb2⟩
      case measure => simp [intOf]; omega
    · have e : k = len := by omega
      subst e
      have ht : rs.take k = rs := List.take_of_length_le (by rw [unhide HL]; omega)
      rw [ht] at hown
      go_wp2_with (at_builtin; refine wpList_append_fits _ rfl _ _ 22 rfl w.heap.size 38 i0 2 Try.underlying22 hi hz1 w.heap.size k (k + 1) _ rfl ((unhide hown).alloc _) ⟨wr.heap.size, 0, none⟩ 1 1 [.int .i64 77, .int .i64 0] rfl rfl (pair_new _ _ _ _) (pair_one _ _) (by omega) ?_)
      intro w2 hown2 hgrow2
      have hb2 : Below w.heap.size w w2 := ((unhide hnx).alloc hsz _).grown hgrow2 (by simp; omega) (by simp)
      have hs2 : w.heap.size < w2.heap.size := (hown2.lt _ rfl).2
      have htw := twin_of_owns (unhide HL).symm hown2
      clear hgrow2 hown2
      go_wp2
      go_ret
      exact ⟨rfl, htw, hb2, hs2⟩
set_option maxHeartbeats 800000 in
theorem twin_none (a : Option Addr) (cap : Nat) (w : World) :
    Calls Try.prog 7 #[.slice a 0 cap] w fun e w' => e = .returned (.slice (some ⟨w.heap.size, 0, none⟩) 0 (0 + 1)) ∧ Twin w' w.heap.size [] ∧ Below w.heap.size w w' ∧ w.heap.size < w'.heap.size := by
  obtain ⟨i0, hi, hz0, hz1, hz2⟩ := info_parts Try.infoRange
  go_enter Try.func7, Try.ntmps7
  go_wp2_with (at_make; refine wpList_make_own _ rfl _ _ 22 rfl w.heap.size 38 i0 _ 2 Try.underlying22 hi hz0 hz1 _ _ _ (0 + 1) rfl rfl (by omega) (by rw [hz2]; omega) (by unfold maxLen; omega) (Nat.le_refl _) ?_; intro w1 hown1 hgrow1)
  have hb1 : Below w.heap.size w w1 := (Below.refl _ _).grown hgrow1 (Nat.le_refl _) (by simp)
  have hs1 : w.heap.size < w1.heap.size := (hown1.lt _ rfl).2
  clear hgrow1
  refine wp_loop_rounds 1 ?_
  rw [rounds_succ]
  go_wp2_with (at_builtin; refine wpList_append_fits _ rfl _ _ 22 rfl w.heap.size 38 i0 2 Try.underlying22 hi hz1 w.heap.size 0 (0 + 1) _ rfl (hown1.alloc _) ⟨w1.heap.size, 0, none⟩ 1 1 [.int .i64 77, .int .i64 0] rfl rfl (pair_new _ _ _ _) (pair_one _ _) (by omega) ?_)
  intro w2 hown2 hgrow2
  have hb2 : Below w.heap.size w w2 := (hb1.alloc hb1.size _).grown hgrow2 (by simp; omega) (by simp)
  have hs2 : w.heap.size < w2.heap.size := (hown2.lt _ rfl).2
  have htw := twin_of_owns (rs := []) rfl hown2
  clear hgrow2 hown2
  go_wp2
  go_ret
  exact ⟨rfl, htw, hb2, hs2⟩
theorem twin_any (a : Option Addr) (len cap c' : Nat) (rs : List R) (w : World) (h : Rg w a len c' rs) (hlen : len ≤ 1048576) :
    Calls Try.prog 7 #[.slice a len cap] w fun e w' => e = .returned (.slice (some ⟨w.heap.size, 0, none⟩) len (len + 1)) ∧ Twin w' w.heap.size rs ∧ Below w.heap.size w w' ∧ w.heap.size < w'.heap.size := by
  rcases h.cells with rfl | ⟨b, off, rfl, hb, hc⟩
  · obtain rfl : rs = [] := List.eq_nil_of_length_eq_zero h.len
    exact twin_none a cap w
  · exact twin_some b off len cap rs w hc hb h.len hlen
set_option maxHeartbeats 400000 in
theorem left_some (g b off len cap : Nat) (rs : List R) (w : World) (h : ∀ i, i < len → w.cell? ⟨b, off + i * 2, none⟩ = some (.int .i64 (rs.getD i rz).1) ∧ w.cell? ⟨b, off + i * 2 + 1, none⟩ = some (.int .i64 (rs.getD i rz).2)) (hb : b < w.heap.size) (hl : rs.length = len) (hlen : len ≤ 1048576) (ht : Twin w g rs) (hg : g < w.heap.size) (hp : 0 < len) :
    Calls Try.prog 10 #[.slice (some ⟨g, 0, none⟩) len (len + 1), .slice (some ⟨b, off, none⟩) len cap] w fun e w' => e = .returned (.bool true) ∧ Below w.heap.size w w' := by
  have HC := hide h
  have HT := hide ht
  rw [← hl] at HC
  have HL := hide hl
  clear h ht hl
  go_enter Try.func10, Try.ntmps10
  go_wp2
  go_loopw [5] (fun i wr => ∃ k : Nat, k ≤ len ∧ i = .int .i64 k ∧ Below w.heap.size w wr) (fun i _ => len - (intOf i).toNat)
  case atStart => exact ⟨0, Nat.zero_le _, rfl, Below.refl _ _⟩
  case round =>
    obtain ⟨k, hk, rfl, hnx⟩ := hrel
    have hsz := hnx.size
    by_cases hlt : k < len
    · have hlt' : (k : Int) < (len : Int) := by omega
      have hkl : k < rs.length := by rw [unhide HL]; exact hlt
      have hc1 := (hnx.cell (p := ⟨b, off + k * 2, none⟩) hb).trans (unhide HC k hkl).1
      have hc2 := (hnx.cell (p := ⟨b, off + k * 2 + 1, none⟩) hb).trans (unhide HC k hkl).2
      have hd1 := (hnx.cell (p := ⟨g, 0 + k * 2, none⟩) hg).trans ((unhide HT).1 k hkl).1
      have hd2 := (hnx.cell (p := ⟨g, 0 + k * 2 + 1, none⟩) hg).trans ((unhide HT).1 k hkl).2
      rw [Nat.zero_add] at hd1 hd2
      obtain ⟨r, hx⟩ : ∃ r, r = rs.getD k rz := ⟨_, rfl⟩
      rw [← hx] at hc1 hc2 hd1 hd2
      clear hx hkl
      obtain ⟨x, y⟩ := r
      simp only at hc1 hc2 hd1 hd2
      go_wp2
      go_quiet (fail)
      go_wp2
      go_roundw
      case rel => exact ⟨k + 1, by omega, by go_num, below_drewN hnx _⟩
      case measure => simp [intOf]; omega
    · have e : k = len := by omega
      subst e
      have hd1 := (hnx.cell (p := ⟨g, rs.length * 2, none⟩) hg).trans (unhide HT).2.1
      have hd2 := (hnx.cell (p := ⟨g, rs.length * 2 + 1, none⟩) hg).trans (unhide HT).2.2
      rw [unhide HL] at hd1 hd2
      go_wp2
      go_ret
      exact ⟨rfl, by repeat (first | exact hnx | apply Below.setCell | apply Below.alloc | simpa using hsz)⟩
set_option maxHeartbeats 400000 in
theorem left_none (g cap : Nat) (a : Option Addr) (w : World) (ht : Twin w g []) :
    Calls Try.prog 10 #[.slice (some ⟨g, 0, none⟩) 0 1, .slice a 0 cap] w fun e w' => e = .returned (.bool true) ∧ Below w.heap.size w w' := by
  obtain ⟨_, ht1, ht2⟩ := ht
  simp only [List.length_nil, Nat.zero_mul, Nat.zero_add] at ht1 ht2
  go_enter Try.func10, Try.ntmps10
  go_wp2
  refine wp_loop_rounds 1 ?_
  rw [rounds_succ]
  go_wp2
  go_ret
  exact ⟨rfl, by repeat (first | exact Below.refl _ _ | apply Below.setCell | apply Below.alloc | simp)⟩
theorem left_any (g : Nat) (a : Option Addr) (len cap c' : Nat) (rs : List R) (w : World) (h : Rg w a len c' rs) (hlen : len ≤ 1048576) (ht : Twin w g rs) (hg : g < w.heap.size) :
    Calls Try.prog 10 #[.slice (some ⟨g, 0, none⟩) len (len + 1), .slice a len cap] w fun e w' => e = .returned (.bool true) ∧ Below w.heap.size w w' := by
  by_cases h0 : len = 0
  · subst h0
    obtain rfl : rs = [] := List.eq_nil_of_length_eq_zero h.len
    exact left_none g cap a w ht
  · rcases h.cells with h1 | ⟨b, off, rfl, hb, hc⟩
    · exact absurd h1 h0
    · exact left_some g b off len cap rs w hc hb h.len hlen ht hg (by omega)

set_option maxHeartbeats 400000 in
theorem rhas_some (b off len cap : Nat) (rs : List R) (n : Int) (w : World) (h : ∀ i, i < len → w.cell? ⟨b, off + i * 2, none⟩ = some (.int .i64 (rs.getD i rz).1) ∧ w.cell? ⟨b, off + i * 2 + 1, none⟩ = some (.int .i64 (rs.getD i rz).2)) (hl : rs.length = len) (hlen : len ≤ 4611686018427387904) :
    Calls Try.prog 20 #[.slice (some ⟨b, off, none⟩) len cap, .int .i64 n] w fun e w' => e = .returned (.bool (has rs n)) ∧ w' = w := by
  have HC := hide h
  have HL := hide hl
  clear h hl
  go_enter Try.func20, Try.ntmps20
  go_wp2
  go_loop [5] (fun i => ∃ k : Nat, k ≤ len ∧ i = .int .i64 k ∧ Hid (has rs n = has (rs.drop k) n)) (fun i => len - (intOf i).toNat)
  case atStart => exact ⟨0, Nat.zero_le _, rfl, rfl⟩
  case round =>
    obtain ⟨k, hk, rfl, hr⟩ := hrel
    by_cases hlt : k < len
    · obtain ⟨hc1, hc2⟩ := unhide HC k hlt
      have hd := hide (drop_at rs k (by rw [unhide HL]; exact hlt))
      obtain ⟨r, hx⟩ : ∃ r, r = rs.getD k rz := ⟨_, rfl⟩
      rw [← hx] at hc1 hc2 hd
      clear hx
      obtain ⟨x, y⟩ := r
      simp only at hc1 hc2
      have hr2 : Hid (has rs n = (inR n (x, y) || has (rs.drop (k + 1)) n)) := by rw [unhide hr, unhide hd]; exact has_cons _ _ _
      clear hd hr
      by_cases h1 : x ≤ n
      · by_cases h2 : y = 0
        · have e2 : (y == 0) = true := by simp [h2]
          have hf : Hid (has rs n = true) := by rw [unhide hr2]; simp [inR, h1, h2, Hid]
          clear h2 hr2
          go_wp2
          go_ret
          exact ⟨by rw [unhide hf]; rfl, rfl⟩
        · have e2 : (y == 0) = false := by simp [h2]
          by_cases h3 : n ≤ y
          · have hf : Hid (has rs n = true) := by rw [unhide hr2]; simp [inR, h1, h3, Hid]
            clear h2 hr2
            go_wp2
            go_ret
            exact ⟨by rw [unhide hf]; rfl, rfl⟩
          · have hf : Hid (has rs n = has (rs.drop (k + 1)) n) := by rw [unhide hr2]; simp [inR, h2, h3, Hid]
            clear h2 hr2
            go_wp2
            go_round
            case rel => exact ⟨k + 1, by omega, by go_num, hf⟩
            case measure => simp [intOf]; omega
      · have hf : Hid (has rs n = has (rs.drop (k + 1)) n) := by rw [unhide hr2]; simp [inR, h1, Hid]
        clear hr2
        go_wp2
        go_round
        case rel => exact ⟨k + 1, by omega, by go_num, hf⟩
        case measure => simp [intOf]; omega
    · have hf : Hid (has rs n = false) := by rw [unhide hr, List.drop_eq_nil_of_le (by rw [unhide HL]; omega)]; rfl
      clear hr
      go_wp2
      go_ret
      exact ⟨by rw [unhide hf]; rfl, rfl⟩
set_option maxHeartbeats 400000 in
theorem rhas_none (a : Option Addr) (cap : Nat) (n : Int) (w : World) :
    Calls Try.prog 20 #[.slice a 0 cap, .int .i64 n] w fun e w' => e = .returned (.bool false) ∧ w' = w := by
  go_enter Try.func20, Try.ntmps20
  go_wp2
  refine wp_loop_rounds 1 ?_
  rw [rounds_succ]
  go_wp2
  go_ret
  exact ⟨rfl, rfl⟩
theorem rhas_any (a : Option Addr) (len cap c' : Nat) (rs : List R) (n : Int) (w : World) (h : Rg w a len c' rs) (hlen : len ≤ 4611686018427387904) :
    Calls Try.prog 20 #[.slice a len cap, .int .i64 n] w fun e w' => e = .returned (.bool (has rs n)) ∧ w' = w := by
  rcases h.cells with rfl | ⟨b, off, rfl, hb, hc⟩
  · obtain rfl : rs = [] := List.eq_nil_of_length_eq_zero h.len
    exact rhas_none a cap n w
  · exact rhas_some b off len cap rs n w hc h.len hlen

end Go.Proofs.Ytpfdjnnnemkoiaa.Ls
