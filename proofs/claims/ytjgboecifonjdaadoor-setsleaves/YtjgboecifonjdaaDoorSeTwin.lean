/- What TwinBytes and LeftBytes answer. -/
import Derived.Test.YtjgboecifonjdaaDoorSeArr
import Derived.Laws.OwnMore
import Derived.WalkSmall
namespace Go.Proofs.YtjgboecifonjdaaDoor.Se
open Go.RowKit

/-- a row with its last element let go -/
theorem own_less {w : World} {base : Nat} {e : TypeId} {s g n cap : Nat} {xs ys : List Value} (h : w.ownsRow base e s (.slice (some ⟨g, 0, none⟩) (n + 1) cap) (n + 1) (xs ++ ys)) (hx : xs.length = n * s) :
    w.ownsRow base e s (.slice (some ⟨g, 0, none⟩) n cap) n xs := by
  refine ⟨hx, ?_⟩
  rcases h.2 with ⟨h1, _⟩ | ⟨g', cap', cur, hv, hb, hg, h1, h2, h3, h4⟩
  · simp at h1
  · simp at hv
    obtain ⟨rfl, rfl⟩ := hv
    refine .inr ⟨g, cap, cur, rfl, hb, hg, by omega, h2, h3, ?_⟩
    have : (cur.toList.take ((n + 1) * s)).take (n * s) = cur.toList.take (n * s) := by
      rw [List.take_take]; congr 1; rw [Nat.add_mul]; omega
    rw [← this, h4, List.take_append_of_le_length (by omega), List.take_of_length_le (by omega)]
/-- the first k of the bytes -/
def tk (l : Bs) (k : Nat) : List Value := Lib.byteCells (l.take k)
theorem tk_snoc {l : Bs} {k : Nat} (h : k < l.length) : tk l (k + 1) = tk l k ++ [.int .u8 ((l.getD k 0).toNat : Int)] := by
  unfold tk; rw [take_snoc l k h]; simp [Lib.byteCells]
theorem tk_all {l : Bs} {k : Nat} (h : l.length = k) : tk l k = Lib.byteCells l := by
  unfold tk; rw [List.take_of_length_le (by omega)]
/-- the copy: the bytes, and behind them the mark -/
def TwinB (w : World) (base g n : Nat) (l : Bs) : Prop :=
  Row base (.slice (some ⟨g, 0, none⟩) n (n + 1)) l w ∧ w.cell? ⟨g, n, none⟩ = some (.int .u8 77)
theorem twinB_of {w : World} {base g n cap : Nat} {l : Bs} (hl : l.length = n) (hc : cap = n + 1)
    (h : w.ownsRow base 5 1 (.slice (some ⟨g, 0, none⟩) (n + 1) cap) (n + 1) (Lib.byteCells l ++ [.int .u8 77])) : TwinB w base g n l := by
  subst hc
  have hbl : (Lib.byteCells l).length = n := by simp [Lib.byteCells, hl]
  refine ⟨?_, ?_⟩
  · have := own_less h (by rw [hbl]; omega)
    unfold Row
    rw [hl]; exact this
  · rw [h.cellAt n (by omega), List.getElem?_append_right (by omega), hbl]
    simp
theorem TwinB.below {w w' : World} {base g n : Nat} {l : Bs} (h : TwinB w base g n l) (hb : Below w.heap.size w w') : TwinB w' base g n l :=
  ⟨row_below h.1 hb, (hb.cell (p := ⟨g, n, none⟩) (h.1.lt g rfl).2).trans h.2⟩

set_option maxHeartbeats 800000 in
theorem twin_any (a : Option Addr) (n cap c' : Nat) (l : Bs) (w : World) (hB : By w a n c' l) (hlen : n ≤ 1048576) :
    Calls Tryd.prog 5 #[.slice a n cap] w fun e w' => e = .returned (.slice (some ⟨w.heap.size, 0, none⟩) n (n + 1)) ∧ TwinB w' w.heap.size w.heap.size n l ∧ Below w.heap.size w w' := by
  obtain ⟨i0, hi, hz0, hz1, hz2⟩ := info_parts Tryd.infoByte
  have HB := hide hB
  have HL := hide hB.len
  clear hB
  go_enter Tryd.func5, Tryd.ntmps5
  go_wp2_with (at_make; refine wpList_make_own _ rfl _ _ 22 rfl w.heap.size 5 i0 _ 1 Tryd.underlying22 hi hz0 hz1 _ _ _ (n + 1) rfl rfl (by omega) (by rw [hz2]; omega) (by unfold maxLen; omega) (Nat.le_refl _) ?_; intro w1 hown1 hgrow1)
  have hb1 : Below w.heap.size w w1 := (Below.refl _ _).grown hgrow1 (Nat.le_refl _) (by simp)
  clear hgrow1
  go_loopw [3, 4] (fun v i wr => ∃ k : Nat, k ≤ n ∧ i = .int .i64 k ∧ v = .slice (some ⟨w.heap.size, 0, none⟩) k (n + 1) ∧
      Hid (wr.ownsRow w.heap.size 5 1 (.slice (some ⟨w.heap.size, 0, none⟩) k (n + 1)) k (tk l k)) ∧ Hid (Below w.heap.size w wr)) (fun _ i _ => n - (intOf i).toNat)
  case atStart => exact ⟨0, Nat.zero_le _, rfl, rfl, hown1, hb1⟩
  case round =>
    clear hown1 hb1
    obtain ⟨k, hk, rfl, rfl, hown, hnx⟩ := hrel
    have hsz := (unhide hnx).size
    have hlt0 := ((unhide hown).lt _ rfl).2
    by_cases hlt : k < n
    · obtain ⟨b, off, rfl, hb, hcs⟩ : ∃ b off, a = some ⟨b, off, none⟩ ∧ b < w.heap.size ∧ ∀ i, i < n → w.cell? ⟨b, off + i, none⟩ = some (.int .u8 ((l.getD i 0).toNat : Int)) := by
        rcases (unhide HB).cells with h | h
        · omega
        · exact h
      have hc1 := ((unhide hnx).cell (p := ⟨b, off + k, none⟩) hb).trans (hcs k hlt)
      have hts := hide (tk_snoc (l := l) (k := k) (by rw [unhide HL]; exact hlt))
      obtain ⟨x, hx⟩ : ∃ x, x = ((l.getD k 0).toNat : Int) := ⟨_, rfl⟩
      rw [← hx] at hc1 hts
      clear hx hcs
      go_wp2_with (at_builtin; refine wpList_append_fits _ rfl _ _ 22 rfl w.heap.size 5 i0 1 Tryd.underlying22 hi hz1 w.heap.size k (n + 1) _ rfl ((unhide hown).alloc _) ⟨wr.heap.size, 0, none⟩ 1 1 [.int .u8 x] rfl rfl (byte_new _ _ _) (byte_one _) (by omega) ?_)
      intro w2 hown2 hgrow2
      have hb2 : Hid (Below w.heap.size w w2) := ((unhide hnx).alloc hsz _).grown hgrow2 (by simp; omega) (by simp)
      have ho2 : Hid (w2.ownsRow w.heap.size 5 1 (.slice (some ⟨w.heap.size, 0, none⟩) (k + 1) (n + 1)) (k + 1) (tk l (k + 1))) := by
        rw [unhide hts]; exact hown2
      clear hgrow2 hc1 hown hnx hown2
      go_wp2
      go_roundw
      case rel => exact ⟨k + 1, by omega, by go_num, rfl, ho2, hb2⟩
      case measure => simp [intOf]; omega
    · have e : k = n := by omega
      subst e
      go_wp2_with (at_builtin; refine wpList_append_fits _ rfl _ _ 22 rfl w.heap.size 5 i0 1 Tryd.underlying22 hi hz1 w.heap.size k (k + 1) _ rfl ((unhide hown).alloc _) ⟨wr.heap.size, 0, none⟩ 1 1 [.int .u8 77] rfl rfl (byte_new _ _ _) (byte_one _) (by omega) ?_)
      intro w2 hown2 hgrow2
      have hb2 : Hid (Below w.heap.size w w2) := ((unhide hnx).alloc hsz _).grown hgrow2 (by simp; omega) (by simp)
      rw [tk_all (unhide HL)] at hown2
      have ht := hide (twinB_of (unhide HL) rfl hown2)
      clear hgrow2 hown hnx hown2
      go_wp2
      go_ret
      exact ⟨rfl, unhide ht, unhide hb2⟩

set_option maxHeartbeats 400000 in
theorem left_any (a : Option Addr) (base g n cap c' : Nat) (l : Bs) (w : World) (hB : By w a n c' l) (hT : TwinB w base g n l) (hlen : n ≤ 1048576) :
    Calls Tryd.prog 13 #[.slice (some ⟨g, 0, none⟩) n (n + 1), .slice a n cap] w fun e w' => e = .returned (.bool true) ∧ Below w.heap.size w w' := by
  have HB := hide hB
  have hsp := hT.2
  have HT : Hid (∀ i, i < n → w.cell? ⟨g, i, none⟩ = some (.int .u8 ((l.getD i 0).toNat : Int))) := fun i hi => by
    have hl := hB.len
    have h1 := hT.1.cells (g := g) rfl i (.int .u8 ((l.getD i 0).toNat : Int)) (by
      have : i < l.length := by omega
      simp [Lib.byteCells, List.getElem?_eq_getElem this, List.getD])
    have e : (⟨g, 0, none⟩ : Addr).add i = ⟨g, i, none⟩ := by unfold Addr.add; split <;> simp_all
    rwa [e] at h1
  clear hB hT
  go_enter Tryd.func13, Tryd.ntmps13
  go_wp2
  go_loopw [5] (fun i wr => ∃ k q : Nat, k ≤ n ∧ i = .int .i64 k ∧ wr = w.drewN q) (fun i _ => n - (intOf i).toNat)
  case atStart => exact ⟨0, 0, Nat.zero_le _, rfl, rfl⟩
  case round =>
    obtain ⟨k, q, hk, rfl, rfl⟩ := hrel
    by_cases hlt : k < n
    · have hlt' : (k : Int) < (n : Int) := by omega
      obtain ⟨b, off, rfl, _, hcs⟩ : ∃ b off, a = some ⟨b, off, none⟩ ∧ b < w.heap.size ∧ ∀ i, i < n → w.cell? ⟨b, off + i, none⟩ = some (.int .u8 ((l.getD i 0).toNat : Int)) := by
        rcases (unhide HB).cells with h | h
        · omega
        · exact h
      have hc1 := hcs k hlt
      have hc2 := unhide HT k hlt
      obtain ⟨x, hx⟩ : ∃ x, x = ((l.getD k 0).toNat : Int) := ⟨_, rfl⟩
      rw [← hx] at hc1 hc2
      clear hx hcs
      go_wp2
      go_quiet (fail)
      go_wp2
      go_roundw
      case rel => exact ⟨k + 1, q + nq, by omega, by go_num, rfl⟩
      case measure => simp [intOf]; omega
    · go_wp2
      go_ret
      exact ⟨rfl, below_drew w q⟩
end Go.Proofs.YtjgboecifonjdaaDoor.Se
