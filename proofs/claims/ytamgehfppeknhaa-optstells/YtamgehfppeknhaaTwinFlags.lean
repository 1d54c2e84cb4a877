/- What TwinFlags and LeftFlags answer: a copy of a list of flags in memory of its own with a mark behind it; and that such a copy is as it was made. -/
import Derived.Test.YtamgehfppeknhaaFlags
import Derived.Deep.QuietTactic
import Derived.BigQuiet
import Derived.WalkSmall
namespace Go.Proofs.Ytamgehfppeknhaa.Flags
open Go.RowKit

theorem Try.infoFlag : (Try.prog.info? 44).map (fun i => (i.zero, i.size, i.bytes)) = some (some (.agg #[.int .u8 0, .string ByteArray.empty]), 2, 24) := by kernel_rfl

/-- the cells of the first k flags -/
def fc (L : Nat → Int) (A : Nat → ByteArray) : Nat → List Value
  | 0 => []
  | k + 1 => fc L A k ++ [.int .u8 (L k), .string (A k)]
theorem fc_length (L : Nat → Int) (A : Nat → ByteArray) (k : Nat) : (fc L A k).length = k * 2 := by
  induction k with
  | zero => rfl
  | succ k ih => simp [fc, ih]; omega
theorem fc_get (L : Nat → Int) (A : Nat → ByteArray) (k i : Nat) (h : i < k) : (fc L A k)[i * 2]? = some (.int .u8 (L i)) ∧ (fc L A k)[i * 2 + 1]? = some (.string (A i)) := by
  induction k with
  | zero => omega
  | succ k ih =>
    have hl := fc_length L A k
    by_cases e : i < k
    · obtain ⟨h1, h2⟩ := ih e
      simp only [fc]
      rw [List.getElem?_append_left (by omega), List.getElem?_append_left (by omega)]
      exact ⟨h1, h2⟩
    · have e : i = k := by omega
      subst e
      simp only [fc]
      rw [List.getElem?_append_right (by omega), List.getElem?_append_right (by omega), hl]
      simp

theorem pair_new (w : World) (x y : Value) (e : TypeId) : ∀ j u, [x, y][j]? = some u → (w.alloc (.cells #[x, y] e)).cell? ((⟨w.heap.size, 0, none⟩ : Addr).add j) = some u := by
  intro j u hj
  match j, hj with
  | 0, hj => simp at hj; subst hj; simp [Addr.add]
  | 1, hj => simp at hj; subst hj; simp [Addr.add]
theorem pair_one (k : IntKind) (a : Int) (s : ByteArray) : ∀ u ∈ [Value.int k a, Value.string s], u.oneCell' = true := by
  intro u hu; simp at hu; rcases hu with rfl | rfl <;> rfl

def spareB : ByteArray := { data := #[115, 112, 97, 114, 101] }

/-- a copy at block g: the flags, and behind them the mark -/
def Twin (w : World) (g len : Nat) (L : Nat → Int) (A : Nat → ByteArray) : Prop :=
  At w g 0 len L A ∧ w.cell? ⟨g, len * 2, none⟩ = some (.int .u8 0) ∧ w.cell? ⟨g, len * 2 + 1, none⟩ = some (.string spareB)

theorem twin_of_owns {w : World} {base g len cap : Nat} {L : Nat → Int} {A : Nat → ByteArray}
    (h : w.ownsRow base 44 2 (.slice (some ⟨g, 0, none⟩) (len + 1) cap) (len + 1) (fc L A len ++ [.int .u8 0, .string spareB])) : Twin w g len L A := by
  have hl := fc_length L A len
  have hc := h.cells (g := g) rfl
  have ha : ∀ j, (⟨g, 0, none⟩ : Addr).add j = ⟨g, j, none⟩ := by intro j; unfold Addr.add; split <;> simp_all
  refine ⟨fun i hi => ?_, ?_, ?_⟩
  · obtain ⟨h1, h2⟩ := fc_get L A len i hi
    refine ⟨?_, ?_⟩
    · rw [Nat.zero_add, ← ha]; exact hc _ _ (by rw [List.getElem?_append_left (by omega)]; exact h1)
    · rw [Nat.zero_add, ← ha]; exact hc _ _ (by rw [List.getElem?_append_left (by omega)]; exact h2)
  · rw [← ha]; exact hc _ _ (by rw [List.getElem?_append_right (by omega), hl]; simp)
  · rw [← ha]; exact hc _ _ (by rw [List.getElem?_append_right (by omega), hl]; simp)

set_option maxHeartbeats 800000 in
theorem twin_some (b off len cap : Nat) (L : Nat → Int) (A : Nat → ByteArray) (w : World) (h : At w b off len L A) (hb : b < w.heap.size) (hlen : len ≤ 1048576) :
    Calls Try.prog 10 #[.slice (some ⟨b, off, none⟩) len cap] w fun e w' => e = .returned (.slice (some ⟨w.heap.size, 0, none⟩) len (len + 1)) ∧ Twin w' w.heap.size len L A ∧ Below w.heap.size w w' ∧ w.heap.size < w'.heap.size := by
  obtain ⟨i0, hi, hz0, hz1, hz2⟩ := info_parts Try.infoFlag
  go_enter Try.func10, Try.ntmps10
  go_wp2_with (at_make; refine wpList_make_own _ rfl _ _ 22 rfl w.heap.size 44 i0 _ 2 Try.underlying22 hi hz0 hz1 _ _ _ (len + 1) rfl rfl (by omega) (by rw [hz2]; omega) (by unfold maxLen; omega) (Nat.le_refl _) ?_; intro w1 hown1 hgrow1)
  have hb1 : Below w.heap.size w w1 := (Below.refl _ _).grown hgrow1 (Nat.le_refl _) (by simp)
  have hs1 : w.heap.size < w1.heap.size := (hown1.lt _ rfl).2
  clear hgrow1
  go_loopw [3, 4] (fun v i wr => ∃ k : Nat, k ≤ len ∧ i = .int .i64 k ∧ v = .slice (some ⟨w.heap.size, 0, none⟩) k (len + 1) ∧
      wr.ownsRow w.heap.size 44 2 (.slice (some ⟨w.heap.size, 0, none⟩) k (len + 1)) k (fc L A k) ∧ Below w.heap.size w wr) (fun _ i _ => len - (intOf i).toNat)
  case atStart => exact ⟨0, Nat.zero_le _, rfl, rfl, hown1, hb1⟩
  case round =>
    clear hown1 hb1 hs1
    obtain ⟨k, hk, rfl, rfl, hown, hnx⟩ := hrel
    have hsz := hnx.size
    have hlt0 := (hown.lt _ rfl).2
    by_cases hlt : k < len
    · have hc1 : wr.cell? ⟨b, off + k * 2, none⟩ = some (.int .u8 (L k)) := (hnx.cell hb).trans (h k hlt).1
      have hc2 : wr.cell? ⟨b, off + k * 2 + 1, none⟩ = some (.string (A k)) := (hnx.cell hb).trans (h k hlt).2
      go_wp2_with (at_builtin; refine wpList_append_fits _ rfl _ _ 22 rfl w.heap.size 44 i0 2 Try.underlying22 hi hz1 w.heap.size k (len + 1) _ rfl (hown.alloc _) ⟨wr.heap.size, 0, none⟩ 1 1 [.int .u8 (L k), .string (A k)] rfl rfl (pair_new _ _ _ _) (pair_one _ _ _) (by omega) ?_)
      intro w2 hown2 hgrow2
      have hb2 : Below w.heap.size w w2 := (hnx.alloc hsz _).grown hgrow2 (by simp; omega) (by simp)
      clear hgrow2 hc1 hc2 hown hnx
      go_wp2
      go_roundw
      case rel => exact ⟨k + 1, by omega, by go_num, rfl, hown2, hb2⟩
      case measure => simp [intOf]; omega
    · have e : k = len := by omega
      subst e
      go_wp2_with (at_builtin; refine wpList_append_fits _ rfl _ _ 22 rfl w.heap.size 44 i0 2 Try.underlying22 hi hz1 w.heap.size k (k + 1) _ rfl (hown.alloc _) ⟨wr.heap.size, 0, none⟩ 1 1 [.int .u8 0, .string spareB] rfl rfl (pair_new _ _ _ _) (pair_one _ _ _) (by omega) ?_)
      intro w2 hown2 hgrow2
      have hb2 : Below w.heap.size w w2 := (hnx.alloc hsz _).grown hgrow2 (by simp; omega) (by simp)
      have ht := hide (twin_of_owns hown2)
      have hs2 := (hown2.lt _ rfl).2
      clear hgrow2 hown hnx hown2
      go_wp2
      go_ret
      exact ⟨rfl, unhide ht, hb2, hs2⟩

set_option maxHeartbeats 800000 in
theorem twin_none (a : Option Addr) (cap : Nat) (L : Nat → Int) (A : Nat → ByteArray) (w : World) :
    Calls Try.prog 10 #[.slice a 0 cap] w fun e w' => e = .returned (.slice (some ⟨w.heap.size, 0, none⟩) 0 1) ∧ Twin w' w.heap.size 0 L A ∧ Below w.heap.size w w' ∧ w.heap.size < w'.heap.size := by
  obtain ⟨i0, hi, hz0, hz1, hz2⟩ := info_parts Try.infoFlag
  go_enter Try.func10, Try.ntmps10
  go_wp2_with (at_make; refine wpList_make_own _ rfl _ _ 22 rfl w.heap.size 44 i0 _ 2 Try.underlying22 hi hz0 hz1 _ _ _ 1 rfl rfl (by omega) (by rw [hz2]; omega) (by unfold maxLen; omega) (Nat.le_refl _) ?_; intro w1 hown1 hgrow1)
  have hb1 : Below w.heap.size w w1 := (Below.refl _ _).grown hgrow1 (Nat.le_refl _) (by simp)
  have hs1 : w.heap.size < w1.heap.size := (hown1.lt _ rfl).2
  clear hgrow1
  refine wp_loop_rounds 1 ?_
  rw [rounds_succ]
  go_wp2_with (at_builtin; refine wpList_append_fits _ rfl _ _ 22 rfl w.heap.size 44 i0 2 Try.underlying22 hi hz1 w.heap.size 0 1 _ rfl (hown1.alloc _) ⟨w1.heap.size, 0, none⟩ 1 1 [.int .u8 0, .string spareB] rfl rfl (pair_new _ _ _ _) (pair_one _ _ _) (by omega) ?_)
  intro w2 hown2 hgrow2
  have hb2 : Below w.heap.size w w2 := (hb1.alloc (by omega) _).grown hgrow2 (by simp; omega) (by simp)
  have ht := hide (twin_of_owns (len := 0) (L := L) (A := A) hown2)
  have hs2 := (hown2.lt _ rfl).2
  clear hgrow2 hown2 hown1
  go_wp2
  go_ret
  exact ⟨rfl, unhide ht, hb2, hs2⟩

set_option maxHeartbeats 400000 in
theorem left_some (g b off len cap : Nat) (L : Nat → Int) (A : Nat → ByteArray) (w : World) (h : At w b off len L A) (hlen : len ≤ 1048576) (ht : Twin w g len L A) (hp : 0 < len)
    (hb : b < w.heap.size) (hg : g < w.heap.size) :
    Calls Try.prog 15 #[.slice (some ⟨g, 0, none⟩) len (len + 1), .slice (some ⟨b, off, none⟩) len cap] w fun e w' => e = .returned (.bool true) ∧ Below w.heap.size w w' := by
  obtain ⟨hta, ht1, ht2⟩ := ht
  go_enter Try.func15, Try.ntmps15
  go_wp2
  go_loopw [5] (fun i wr => ∃ k : Nat, k ≤ len ∧ i = .int .i64 k ∧ Below w.heap.size w wr) (fun i _ => len - (intOf i).toNat)
  case atStart => exact ⟨0, Nat.zero_le _, rfl, Below.refl _ _⟩
  case round =>
    obtain ⟨k, hk, rfl, hnx⟩ := hrel
    have hsz := hnx.size
    by_cases hlt : k < len
    · have hlt' : (k : Int) < (len : Int) := by omega
      have hc1 : wr.cell? ⟨b, off + k * 2, none⟩ = some (.int .u8 (L k)) := (hnx.cell hb).trans (h k hlt).1
      have hc2 : wr.cell? ⟨b, off + k * 2 + 1, none⟩ = some (.string (A k)) := (hnx.cell hb).trans (h k hlt).2
      have hd1 : wr.cell? ⟨g, 0 + k * 2, none⟩ = some (.int .u8 (L k)) := (hnx.cell hg).trans (hta k hlt).1
      have hd2 : wr.cell? ⟨g, 0 + k * 2 + 1, none⟩ = some (.string (A k)) := (hnx.cell hg).trans (hta k hlt).2
      rw [Nat.zero_add] at hd1 hd2
      go_wp2
      go_quiet (fail)
      go_wp2
      go_roundw
      case rel => exact ⟨k + 1, by omega, by go_num, below_drewN hnx _⟩
      case measure => simp [intOf]; omega
    · have e : k = len := by omega
      subst e
      have hd1 : wr.cell? ⟨g, k * 2, none⟩ = some (.int .u8 0) := (hnx.cell hg).trans ht1
      have hd2 : wr.cell? ⟨g, k * 2 + 1, none⟩ = some (.string spareB) := (hnx.cell hg).trans ht2
      have hsp : (spareB.toList == [115, 112, 97, 114, 101]) = true := by rw [ByteArray.toList_eq]; rfl
      go_wp2
      go_ret
      exact ⟨rfl, by repeat (first | exact hnx | apply Below.setCell | apply Below.alloc | simpa using hsz)⟩

set_option maxHeartbeats 400000 in
theorem left_none (g cap : Nat) (a : Option Addr) (L : Nat → Int) (A : Nat → ByteArray) (w : World) (ht : Twin w g 0 L A) :
    Calls Try.prog 15 #[.slice (some ⟨g, 0, none⟩) 0 1, .slice a 0 cap] w fun e w' => e = .returned (.bool true) ∧ Below w.heap.size w w' := by
  obtain ⟨hta, ht1, ht2⟩ := ht
  rw [Nat.zero_mul] at ht1 ht2
  rw [Nat.zero_add] at ht2
  clear hta
  have hsp : (spareB.toList == [115, 112, 97, 114, 101]) = true := by rw [ByteArray.toList_eq]; rfl
  go_enter Try.func15, Try.ntmps15
  go_wp2
  refine wp_loop_rounds 1 ?_
  rw [rounds_succ]
  go_wp2
  go_ret
  exact ⟨rfl, by repeat (first | exact Below.refl _ _ | apply Below.setCell | apply Below.alloc | simp)⟩

/-! ### each at whatever list -/
theorem twin_any (a : Option Addr) (len cap : Nat) (L : Nat → Int) (A : Nat → ByteArray) (w : World) (h : Fl w a len L A) (hlen : len ≤ 1048576) :
    Calls Try.prog 10 #[.slice a len cap] w fun e w' => e = .returned (.slice (some ⟨w.heap.size, 0, none⟩) len (len + 1)) ∧ Twin w' w.heap.size len L A ∧ Below w.heap.size w w' ∧ w.heap.size < w'.heap.size := by
  rcases h with rfl | ⟨b, off, rfl, h, hb⟩
  · exact twin_none a cap L A w
  · exact twin_some b off len cap L A w h hb hlen
theorem left_any (g cap : Nat) (a : Option Addr) (len : Nat) (L : Nat → Int) (A : Nat → ByteArray) (w : World) (h : Fl w a len L A) (hlen : len ≤ 1048576) (ht : Twin w g len L A) (hg : g < w.heap.size) :
    Calls Try.prog 15 #[.slice (some ⟨g, 0, none⟩) len (len + 1), .slice a len cap] w fun e w' => e = .returned (.bool true) ∧ Below w.heap.size w w' := by
  rcases h with rfl | ⟨b, off, rfl, h, hb⟩
  · exact left_none g cap a L A w ht
  · by_cases hp : 0 < len
    · exact left_some g b off len cap L A w h hlen ht hp hb hg
    · obtain rfl : len = 0 := by omega
      exact left_none g cap _ L A w ht
theorem Twin.below {w w' : World} {g len : Nat} {L : Nat → Int} {A : Nat → ByteArray} (h : Twin w g len L A) (hg : g < w.heap.size) (hb : Below w.heap.size w w') : Twin w' g len L A :=
  ⟨fun i hi => ⟨(hb.cell hg).trans (h.1 i hi).1, (hb.cell hg).trans (h.1 i hi).2⟩, (hb.cell hg).trans h.2.1, (hb.cell hg).trans h.2.2⟩
end Go.Proofs.Ytamgehfppeknhaa.Flags
