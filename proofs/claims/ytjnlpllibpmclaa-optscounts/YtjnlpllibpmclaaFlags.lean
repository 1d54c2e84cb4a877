/- What the functions that only read a list of flags answer: FlagsSize, Has, Last. -/
import Derived.Test.YtjnlpllibpmclaaRows
import Derived.WalkKit
import Derived.WalkSpells
namespace Go.Proofs.Ytjnlpllibpmclaa.Flags
open Go.RowKit

theorem hide {p : Prop} (h : p) : Hid p := h
theorem unhide {p : Prop} (h : Hid p) : p := h.out

def hasTo (L : Nat → Int) (c : Int) : Nat → Nat
  | 0 => 0
  | k + 1 => hasTo L c k + if L k = c then 1 else 0
def lastTo (L : Nat → Int) (A : Nat → ByteArray) (c : Int) : Nat → ByteArray × Bool
  | 0 => (ByteArray.empty, false)
  | k + 1 => if L k = c then (A k, true) else lastTo L A c k
theorem hasTo_le (L : Nat → Int) (c : Int) (k : Nat) : hasTo L c k ≤ k := by
  induction k with
  | zero => simp [hasTo]
  | succ k ih => simp only [hasTo]; split <;> omega

/-- the flags of a slice that lies at b, off: letter and text of each -/
def At (w : World) (b off len : Nat) (L : Nat → Int) (A : Nat → ByteArray) : Prop :=
  ∀ i, i < len → w.cell? ⟨b, off + i * 2, none⟩ = some (.int .u8 (L i)) ∧ w.cell? ⟨b, off + i * 2 + 1, none⟩ = some (.string (A i))

set_option maxHeartbeats 400000 in
theorem size_some (b off len cap : Nat) (L : Nat → Int) (A : Nat → ByteArray) (w : World) (h : At w b off len L A) (hlen : len ≤ 4611686018427387904)
    (hA : ∀ i, i < len → (A i).size ≤ 4611686018427387904) :
    Calls Try.prog 15 #[.slice (some ⟨b, off, none⟩) len cap] w fun e w' => (∃ v : Int, e = .returned (.int .i64 v) ∧ len ≤ v ∧ v ≤ 4611686018428436480) ∧ w' = w := by
  go_enter Try.func15, Try.ntmps15
  go_wp2
  go_loop [3, 4] (fun n i => ∃ (k : Nat) (v : Int), k ≤ len ∧ i = .int .i64 k ∧ n = .int .i64 v ∧ len ≤ v ∧ v ≤ 4611686018428436480) (fun _ i => len - (intOf i).toNat)
  case atStart => exact ⟨0, len, Nat.zero_le _, rfl, rfl, by omega, by omega⟩
  case round =>
    obtain ⟨k, v, hk, rfl, rfl, hv1, hv2⟩ := hrel
    by_cases hlt : k < len
    · by_cases hv : v ≤ 1048576
      · have hc := (h k hlt).2
        have hs := hA k hlt
        go_wp2
        go_round
        case rel => exact ⟨k + 1, _, by omega, by go_num, rfl, by omega, by omega⟩
        case measure => simp [intOf]; omega
      · go_wp2
        go_ret
        exact ⟨⟨v, rfl, by omega, by omega⟩, rfl⟩
    · go_wp2
      go_ret
      exact ⟨⟨v, rfl, by omega, by omega⟩, rfl⟩

set_option maxHeartbeats 400000 in
theorem size_none (a : Option Addr) (cap : Nat) (w : World) :
    Calls Try.prog 15 #[.slice a 0 cap] w fun e w' => e = .returned (.int .i64 0) ∧ w' = w := by
  go_enter Try.func15, Try.ntmps15
  go_wp2
  refine wp_loop_rounds 1 ?_
  rw [rounds_succ]
  go_wp2
  go_ret
  exact ⟨rfl, rfl⟩

set_option maxHeartbeats 400000 in
theorem has_some (b off len cap : Nat) (L : Nat → Int) (A : Nat → ByteArray) (c : Int) (w : World) (h : At w b off len L A) (hb : b < w.heap.size) (hlen : len ≤ 4611686018427387904) :
    Calls Try.prog 17 #[.slice (some ⟨b, off, none⟩) len cap, .int .u8 c] w fun e w' => e = .returned (.int .i64 (hasTo L c len)) ∧ Below w.heap.size w w' := by
  go_enter Try.func17, Try.ntmps17
  go_wp2
  go_loopw [5, 10] (fun n i wr => ∃ k : Nat, k ≤ len ∧ i = .int .i64 k ∧ n = .int .i64 (hasTo L c k) ∧ Below w.heap.size w wr) (fun _ i _ => len - (intOf i).toNat)
  case atStart => exact ⟨0, Nat.zero_le _, rfl, rfl, Below.refl _ _⟩
  case round =>
    obtain ⟨k, hk, rfl, rfl, hnx⟩ := hrel
    have hle := hasTo_le L c k
    have hsz := hnx.size
    by_cases hlt : k < len
    · have hc1 : wr.cell? ⟨b, off + k * 2, none⟩ = some (.int .u8 (L k)) := (hnx.cell hb).trans (h k hlt).1
      have hc2 : wr.cell? ⟨b, off + k * 2 + 1, none⟩ = some (.string (A k)) := (hnx.cell hb).trans (h k hlt).2
      by_cases he : L k = c
      · have hs : Hid (hasTo L c (k + 1) = hasTo L c k + 1) := by simp [hasTo, he, Hid]
        have hx : (L k == c) = true := by simp [he]
        clear he
        go_wp2
        go_roundw
        case rel => exact ⟨k + 1, by omega, by go_num, by rw [unhide hs]; go_num, by repeat (first | exact hnx | apply Below.setCell | apply Below.alloc | simpa using hsz)⟩
        case measure => simp [intOf]; omega
      · have hs : Hid (hasTo L c (k + 1) = hasTo L c k) := by simp [hasTo, he, Hid]
        have hx : (L k == c) = false := by simp [he]
        clear he
        go_wp2
        go_roundw
        case rel => exact ⟨k + 1, by omega, by go_num, by rw [unhide hs], by repeat (first | exact hnx | apply Below.setCell | apply Below.alloc | simpa using hsz)⟩
        case measure => simp [intOf]; omega
    · have e : k = len := by omega
      subst e
      go_wp2
      go_ret
      exact ⟨rfl, hnx⟩

set_option maxHeartbeats 400000 in
theorem has_none (a : Option Addr) (cap : Nat) (c : Int) (w : World) :
    Calls Try.prog 17 #[.slice a 0 cap, .int .u8 c] w fun e w' => e = .returned (.int .i64 0) ∧ w' = w := by
  go_enter Try.func17, Try.ntmps17
  go_wp2
  refine wp_loop_rounds 1 ?_
  rw [rounds_succ]
  go_wp2
  go_ret
  exact ⟨rfl, rfl⟩

set_option maxHeartbeats 400000 in
theorem last_some (b off len cap : Nat) (L : Nat → Int) (A : Nat → ByteArray) (c : Int) (w : World) (h : At w b off len L A) (hlen : len ≤ 4611686018427387904) :
    Calls Try.prog 16 #[.slice (some ⟨b, off, none⟩) len cap, .int .u8 c] w fun e w' => e = .returned (.tuple #[.string (lastTo L A c len).1, .bool (lastTo L A c len).2]) ∧ w' = w := by
  go_enter Try.func16, Try.ntmps16
  go_wp2
  go_loop [6] (fun i => ∃ k : Nat, k ≤ len ∧ i = .int .i64 ((k : Int) - 1) ∧ Hid (lastTo L A c len = lastTo L A c k)) (fun i => (intOf i + 1).toNat)
  case atStart => exact ⟨len, Nat.le_refl _, rfl, rfl⟩
  case round =>
    obtain ⟨k, hk, rfl, hr⟩ := hrel
    by_cases hlt : 0 < k
    · obtain ⟨j, rfl⟩ : ∃ j, k = j + 1 := ⟨k - 1, by omega⟩
      have ej : ((j + 1 : Nat) : Int) - 1 = j := by omega
      rw [ej]
      have hc1 := (h j (by omega)).1
      have hc2 := (h j (by omega)).2
      by_cases he : L j = c
      · have hs : Hid (lastTo L A c len = (A j, true)) := by rw [unhide hr]; simp [lastTo, he, Hid]
        have hx : (L j == c) = true := by simp [he]
        clear he hr
        go_wp2
        go_ret2
        exact ⟨by rw [unhide hs]; rfl, rfl⟩
      · have hs : Hid (lastTo L A c len = lastTo L A c j) := by rw [unhide hr]; simp [lastTo, he, Hid]
        have hx : (L j == c) = false := by simp [he]
        clear he hr
        go_wp2
        go_round
        case rel => exact ⟨j, by omega, by go_num, hs⟩
        case measure => simp [intOf]
    · have e : k = 0 := by omega
      subst e
      have hs : Hid (lastTo L A c len = (ByteArray.empty, false)) := by rw [unhide hr]; rfl
      clear hr
      go_wp2
      go_ret2
      exact ⟨by rw [unhide hs]; rfl, rfl⟩

set_option maxHeartbeats 400000 in
theorem last_none (a : Option Addr) (cap : Nat) (c : Int) (w : World) :
    Calls Try.prog 16 #[.slice a 0 cap, .int .u8 c] w fun e w' => e = .returned (.tuple #[.string ByteArray.empty, .bool false]) ∧ w' = w := by
  go_enter Try.func16, Try.ntmps16
  go_wp2
  refine wp_loop_rounds 1 ?_
  rw [rounds_succ]
  go_wp2
  go_ret2
  exact ⟨rfl, rfl⟩

/-! ### each at whatever list: empty, or it lies at b, off -/
def Fl (w : World) (a : Option Addr) (len : Nat) (L : Nat → Int) (A : Nat → ByteArray) : Prop :=
  len = 0 ∨ ∃ b off, a = some ⟨b, off, none⟩ ∧ At w b off len L A ∧ b < w.heap.size
theorem Fl.below {w w' : World} {a : Option Addr} {len : Nat} {L : Nat → Int} {A : Nat → ByteArray} (h : Fl w a len L A) (hb : Below w.heap.size w w') : Fl w' a len L A := by
  rcases h with h | ⟨b, off, e, h, hlt⟩
  · exact .inl h
  · exact .inr ⟨b, off, e, fun i hi => ⟨(hb.cell hlt).trans (h i hi).1, (hb.cell hlt).trans (h i hi).2⟩, Nat.lt_of_lt_of_le hlt hb.size⟩
theorem size_any (a : Option Addr) (len cap : Nat) (L : Nat → Int) (A : Nat → ByteArray) (w : World) (h : Fl w a len L A) (hlen : len ≤ 4611686018427387904)
    (hA : ∀ i, i < len → (A i).size ≤ 4611686018427387904) :
    Calls Try.prog 15 #[.slice a len cap] w fun e w' => (∃ v : Int, e = .returned (.int .i64 v) ∧ len ≤ v ∧ v ≤ 4611686018428436480) ∧ w' = w := by
  rcases h with rfl | ⟨b, off, rfl, h, _⟩
  · exact (size_none a cap w).mono fun e w' ⟨h1, h2⟩ => ⟨⟨0, h1, by omega, by omega⟩, h2⟩
  · exact size_some b off len cap L A w h hlen hA
theorem has_any (a : Option Addr) (len cap : Nat) (L : Nat → Int) (A : Nat → ByteArray) (c : Int) (w : World) (h : Fl w a len L A) (hlen : len ≤ 4611686018427387904) :
    Calls Try.prog 17 #[.slice a len cap, .int .u8 c] w fun e w' => e = .returned (.int .i64 (hasTo L c len)) ∧ Below w.heap.size w w' := by
  rcases h with rfl | ⟨b, off, rfl, h, hb⟩
  · exact (has_none a cap c w).mono fun e w' ⟨h1, h2⟩ => ⟨h1, h2 ▸ Below.refl _ _⟩
  · exact has_some b off len cap L A c w h hb hlen
theorem last_any (a : Option Addr) (len cap : Nat) (L : Nat → Int) (A : Nat → ByteArray) (c : Int) (w : World) (h : Fl w a len L A) (hlen : len ≤ 4611686018427387904) :
    Calls Try.prog 16 #[.slice a len cap, .int .u8 c] w fun e w' => e = .returned (.tuple #[.string (lastTo L A c len).1, .bool (lastTo L A c len).2]) ∧ w' = w := by
  rcases h with rfl | ⟨b, off, rfl, h, hb⟩
  · exact last_none a cap c w
  · exact last_some b off len cap L A c w h hlen
end Go.Proofs.Ytjnlpllibpmclaa.Flags
