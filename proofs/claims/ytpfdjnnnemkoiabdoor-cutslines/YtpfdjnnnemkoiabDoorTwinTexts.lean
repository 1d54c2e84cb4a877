/- What TwinTexts, LeftTexts and TextsSize answer. -/
import Derived.Test.YtpfdjnnnemkoiabDoorTexts
import Derived.WalkSmall
import Derived.Laws.OwnMore
namespace Go.Proofs.YtpfdjnnnemkoiabDoor.Pa
open Go.RowKit

theorem one_new (w : World) (x : Value) (e : TypeId) : ∀ j u, [x][j]? = some u → (w.alloc (.cells #[x] e)).cell? ((⟨w.heap.size, 0, none⟩ : Addr).add j) = some u := by
  intro j u hj
  match j, hj with
  | 0, hj => simp at hj; subst hj; simp [Addr.add]
theorem one_one (s : ByteArray) : ∀ u ∈ [Value.string s], u.oneCell' = true := by
  intro u hu; simp at hu; subst hu; rfl
def spareB : ByteArray := { data := #[115, 112, 97, 114, 101] }
/-- a row with its last element let go -/
theorem own_less {w : World} {base : Nat} {e : TypeId} {s g n cap : Nat} {xs ys : List Value} (h : w.ownsRow base e s (.slice (some ⟨g, 0, none⟩) (n + 1) cap) (n + 1) (xs ++ ys)) (hx : xs.length = n * s) :
    w.ownsRow base e s (.slice (some ⟨g, 0, none⟩) n cap) n xs := by
  refine ⟨hx, ?_⟩
  rcases h.2 with ⟨h1, _⟩ | ⟨g', cap', cur, hv, hb, hg, h1, h2, h3, h4⟩
  · simp at h1
  · simp at hv
    obtain ⟨rfl, rfl⟩ := hv
    refine .inr ⟨g, cap, cur, rfl, hb, hg, by omega, h2, h3, ?_⟩
    have : (cur.toList.take ((n + 1) * s)).take (n * s) = cur.toList.take (n * s) := by
      rw [List.take_take]; congr 1; rw [Nat.add_mul]; omega
    rw [← this, h4, List.take_append_of_le_length (by omega), List.take_of_length_le (by omega)]
/-- the first k of the texts -/
def tk (ss : List ByteArray) (k : Nat) : List Value := (ss.take k).map Value.string
theorem tk_snoc {ss : List ByteArray} {k : Nat} (h : k < ss.length) : tk ss (k + 1) = tk ss k ++ [.string (ss.getD k ByteArray.empty)] := by
  unfold tk
  rw [List.take_add_one, List.getElem?_eq_getElem h, List.map_append]
  simp [List.getD, List.getElem?_eq_getElem h]
theorem tk_all {ss : List ByteArray} {k : Nat} (h : ss.length = k) : tk ss k = ss.map Value.string := by
  unfold tk
  rw [List.take_of_length_le (by omega)]

/-- the copy: the texts, and behind them the mark -/
def TwinT (w : World) (base g n : Nat) (ss : List ByteArray) : Prop :=
  w.ownsRow base 9 1 (.slice (some ⟨g, 0, none⟩) n (n + 1)) n (ss.map Value.string) ∧ w.cell? ⟨g, n, none⟩ = some (.string spareB)
theorem twinT_of {w : World} {base g n cap : Nat} {ss : List ByteArray} (hl : ss.length = n) (hc : cap = n + 1)
    (h : w.ownsRow base 9 1 (.slice (some ⟨g, 0, none⟩) (n + 1) cap) (n + 1) (ss.map Value.string ++ [.string spareB])) : TwinT w base g n ss := by
  subst hc
  refine ⟨own_less h (by simp [hl]), ?_⟩
  rw [h.cellAt n (by omega), List.getElem?_append_right (by simp [hl])]
  simp [hl]

end Go.Proofs.YtpfdjnnnemkoiabDoor.Pa
