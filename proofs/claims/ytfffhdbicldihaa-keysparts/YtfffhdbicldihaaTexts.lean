/- Lists of texts; SameTexts where the lists are the same. -/
import Derived.Test.YtfffhdbicldihaaRows
import Derived.WalkKit
import Derived.WalkMore
import Derived.WalkSmall
import Derived.Laws.OwnMore
import Derived.Deep.QuietTactic
import Derived.BigQuiet
namespace Go.Proofs.Ytfffhdbicldihaa.Pa
open Go.RowKit

theorem hide {p : Prop} (h : p) : Hid p := h
theorem unhide {p : Prop} (h : Hid p) : p := h.out
theorem Try.infoStr : (Try.prog.info? 9).map (fun i => (i.zero, i.size, i.bytes)) = some (some (.string ByteArray.empty), 1, 16) := by kernel_rfl

def tot : List ByteArray → Nat
  | [] => 0
  | s :: l => s.size + tot l
theorem tot_drop (ss : List ByteArray) (k : Nat) : tot (ss.drop k) ≤ tot ss := by
  induction ss generalizing k with
  | nil => simp
  | cons s l ih =>
    cases k with
    | zero => simp
    | succ k => simp only [List.drop_succ_cons, tot]; have := ih k; omega

/-- a list of texts that came in: empty, or its texts lie at b, off -/
structure Tx (w : World) (a : Option Addr) (n cap : Nat) (ss : List ByteArray) : Prop where
  len : ss.length = n
  le : n ≤ cap
  nil : a = none → n = 0 ∧ cap = 0
  cells : n = 0 ∨ ∃ b off, a = some ⟨b, off, none⟩ ∧ b < w.heap.size ∧ ∀ i, i < n → w.cell? ⟨b, off + i, none⟩ = some (.string (ss.getD i ByteArray.empty))
theorem Tx.below {w w' : World} {a : Option Addr} {n cap : Nat} {ss : List ByteArray} (h : Tx w a n cap ss) (hb : Below w.heap.size w w') : Tx w' a n cap ss := by
  refine ⟨h.len, h.le, h.nil, ?_⟩
  rcases h.cells with h | ⟨b, off, e, hlt, hc⟩
  · exact .inl h
  · exact .inr ⟨b, off, e, Nat.lt_of_lt_of_le hlt hb.size, fun i hi => (hb.cell hlt).trans (hc i hi)⟩

theorem add_none (b off j : Nat) : (⟨b, off, none⟩ : Addr).add j = ⟨b, off + j, none⟩ := by unfold Addr.add; split <;> simp_all

theorem tx_of_owns {w : World} {base : Nat} {v : Value} {ss : List ByteArray} {e : TypeId} (h : w.ownsRow base e 1 v ss.length (ss.map Value.string)) : ∃ a cap, v = .slice a ss.length cap ∧ Tx w a ss.length cap ss := by
  rcases h.2 with ⟨rfl, hn⟩ | ⟨g, cap, cur, rfl, hb, hg, hle, rest⟩
  · exact ⟨none, 0, by rw [hn], rfl, by omega, fun _ => ⟨hn, rfl⟩, .inl hn⟩
  · refine ⟨some ⟨g, 0, none⟩, cap, rfl, rfl, hle, (by intro h; cases h), .inr ⟨g, 0, rfl, (h.lt g rfl).2, fun i hi => ?_⟩⟩
    have hc := h.cells (g := g) rfl i (.string (ss.getD i ByteArray.empty)) (by rw [List.getElem?_map, List.getElem?_eq_getElem hi]; simp [List.getD, List.getElem?_eq_getElem hi])
    rw [add_none] at hc
    exact hc

theorem drewN_below (w : World) (q : Nat) : Below w.heap.size w (w.drewN q) := ⟨rfl, rfl, rfl, Nat.le_refl _, fun _ _ => rfl⟩

theorem tx_lit (w : World) (l : List ByteArray) (e : TypeId) : Tx (w.alloc (.cells (l.map Value.string).toArray e)) (some ⟨w.heap.size, 0, none⟩) l.length l.length l := by
  refine ⟨rfl, Nat.le_refl _, by simp, .inr ⟨w.heap.size, 0, rfl, by simp, fun i hi => ?_⟩⟩
  rw [Nat.zero_add, cell_of_row _ _ _ _ _ _ (heap_alloc_new w _)]
  simp [List.getD, List.getElem?_eq_getElem hi]
theorem tx_nil (w : World) : Tx w none 0 0 [] := ⟨rfl, Nat.le_refl _, fun _ => ⟨rfl, rfl⟩, .inl rfl⟩
end Go.Proofs.Ytfffhdbicldihaa.Pa
