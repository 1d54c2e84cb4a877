/- Lists of bytes: SameBytes where they are the same, has; alive answers true. -/
import Derived.Test.YtjgboecifonjdaaGreatDoorSeArr
namespace Go.Proofs.YtjgboecifonjdaaGreatDoor.Se
open Go.RowKit

theorem add_none (b off j : Nat) : (⟨b, off, none⟩ : Addr).add j = ⟨b, off + j, none⟩ := by unfold Addr.add; split <;> simp_all
theorem bc_get (l : Bs) (i : Nat) (h : i < l.length) : (Lib.byteCells l)[i]? = some (.int .u8 ((l.getD i 0).toNat : Int)) := by
  simp [Lib.byteCells, List.getElem?_eq_getElem h, List.getD]
theorem by_row {w : World} {B : Nat} {v : Value} {l : Bs} (h : Row B v l w) : ∃ a cap, v = .slice a l.length cap ∧ By w a l.length cap l := by
  rcases h.2 with ⟨rfl, hn⟩ | ⟨g, cap, cur, rfl, hb, hg, hle, rest⟩
  · exact ⟨none, 0, by rw [hn], rfl, by omega, fun _ => ⟨hn, rfl⟩, .inl hn⟩
  · refine ⟨some ⟨g, 0, none⟩, cap, rfl, rfl, hle, (by intro h; cases h), .inr ⟨g, 0, rfl, (h.lt g rfl).2, fun i hi => ?_⟩⟩
    have h1 := h.cells (g := g) rfl _ _ (bc_get l i hi)
    rwa [add_none] at h1
theorem by_lit (w : World) (l : Bs) (e : TypeId) (fr : Nat × Nat) : By (w.alloc (.cells (Lib.byteCells l).toArray e fr)) (some ⟨w.heap.size, 0, none⟩) l.length l.length l := by
  refine ⟨rfl, Nat.le_refl _, by simp, .inr ⟨w.heap.size, 0, rfl, by simp, fun i hi => ?_⟩⟩
  rw [Nat.zero_add, cell_of_row _ _ _ _ _ _ (heap_alloc_new w _)]
  simpa using bc_get l i hi
theorem by_nil (w : World) : By w none 0 0 [] := ⟨rfl, Nat.le_refl _, fun _ => ⟨rfl, rfl⟩, .inl rfl⟩
/-- the first m of a list -/
theorem By.head {w : World} {a : Option Addr} {n cap : Nat} {l : Bs} (h : By w a n cap l) (m : Nat) (hm : m ≤ n) : By w a m cap (l.take m) := by
  refine ⟨by rw [List.length_take, h.len]; omega, by have := h.le; omega, fun e => ⟨by have := h.nil e; omega, (h.nil e).2⟩, ?_⟩
  rcases h.cells with h0 | ⟨b, off, e, hb, hc⟩
  · exact .inl (by omega)
  · refine .inr ⟨b, off, e, hb, fun i hi => ?_⟩
    have := hc i (by omega)
    have e : (l.take m).getD i 0 = l.getD i 0 := by simp [List.getD, hi]
    rw [e]
    exact this
theorem elem_head (x c : UInt8) (t : Bs) : (x :: t).elem c = (decide (x = c) || t.elem c) := by
  by_cases hc : x = c
  · simp [hc]
  · have : ¬ c = x := fun h => hc h.symm
    simp [hc, this]
theorem elem_drop (l : Bs) (k : Nat) (c : UInt8) (h : k < l.length) : (l.drop k).elem c = (decide (l.getD k 0 = c) || (l.drop (k + 1)).elem c) := by
  have e : l.getD k 0 = l[k] := by simp [List.getD, List.getElem?_eq_getElem h]
  rw [List.drop_eq_getElem_cons h, e]
  exact elem_head _ _ _

set_option maxHeartbeats 400000 in
theorem same_any (a b : Option Addr) (n c1 c2 d1 d2 : Nat) (l : Bs) (w : World) (hn : n ≤ 4611686018427387904) (h1 : By w a n d1 l) (h2 : By w b n d2 l) :
    Calls Tryz.prog 7 #[.slice a n c1, .slice b n c2] w fun e w' => e = .returned (.bool true) ∧ Below w.heap.size w w' := by
  have H1 := hide h1
  have H2 := hide h2
  clear h1 h2
  go_enter Tryz.func7, Tryz.ntmps7
  go_wp2
  go_loopw [5] (fun i wr => ∃ k q : Nat, k ≤ n ∧ i = .int .i64 k ∧ wr = w.drewN q) (fun i _ => n - (intOf i).toNat)
  case atStart => exact ⟨0, 0, Nat.zero_le _, rfl, rfl⟩
  case round =>
    obtain ⟨k, q, hk, rfl, rfl⟩ := hrel
    by_cases hlt : k < n
    · have hlt' : (k : Int) < (n : Int) := by omega
      obtain ⟨b1, o1, rfl, _, hcs1⟩ : ∃ b off, a = some ⟨b, off, none⟩ ∧ b < w.heap.size ∧ ∀ i, i < n → w.cell? ⟨b, off + i, none⟩ = some (.int .u8 ((l.getD i 0).toNat : Int)) := by
        rcases (unhide H1).cells with h | h
        · omega
        · exact h
      obtain ⟨b2, o2, rfl, _, hcs2⟩ : ∃ b' off, b = some ⟨b', off, none⟩ ∧ b' < w.heap.size ∧ ∀ i, i < n → w.cell? ⟨b', off + i, none⟩ = some (.int .u8 ((l.getD i 0).toNat : Int)) := by
        rcases (unhide H2).cells with h | h
        · omega
        · exact h
      have hc1 := hcs1 k hlt
      have hc2 := hcs2 k hlt
      obtain ⟨x, hx⟩ : ∃ x, x = ((l.getD k 0).toNat : Int) := ⟨_, rfl⟩
      rw [← hx] at hc1 hc2
      clear hx hcs1 hcs2
      go_wp2
      go_quiet (fail)
      go_wp2
      go_roundw
      case rel => exact ⟨k + 1, q + nq, by omega, by go_num, rfl⟩
      case measure => simp [intOf]; omega
    · go_wp2
      go_ret
      exact ⟨rfl, below_drew w q⟩

end Go.Proofs.YtjgboecifonjdaaGreatDoor.Se
