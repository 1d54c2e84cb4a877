/- Lists of lines: those that came in, those of one's own. -/
import Derived.Test.YtmpppdbomdepoaaGreatDoorSoLines
import Derived.Test.YtmpppdbomdepoaaGreatDoorTexts
namespace Go.Proofs.YtmpppdbomdepoaaGreatDoor.So
open Go.RowKit Ky
open Pa (Tx)

theorem grown_below {w w' : World} (h : Below w.heap.size w w') : w.grownBy w' none := by
  obtain ⟨h1, h2, h3, h4, h5⟩ := h
  exact ⟨h1, h2, h3, h4, fun i hi _ => h5 i hi⟩
theorem own_below {w w' : World} {base : Nat} {e : TypeId} {size : Nat} {v : Value} {n : Nat} {xs : List Value} (h : w.ownsRow base e size v n xs) (hb : Below w.heap.size w w') : w'.ownsRow base e size v n xs :=
  h.kept (grown_below hb) (by cases v.ownBlock <;> simp)
theorem own_base {w : World} {base base' : Nat} {e : TypeId} {size : Nat} {v : Value} {n : Nat} {xs : List Value} (h : w.ownsRow base e size v n xs) (hb : base' ≤ base) : w.ownsRow base' e size v n xs := by
  refine ⟨h.1, ?_⟩
  rcases h.2 with h | ⟨g, cap, cur, hv, h1, h2⟩
  · exact .inl h
  · exact .inr ⟨g, cap, cur, hv, Nat.le_trans hb h1, h2⟩
def strs (l : Ls) : List Value := l.map Value.string
theorem strs_snoc (l : Ls) (x : ByteArray) : strs (l ++ [x]) = strs l ++ [.string x] := by simp [strs]
theorem strs_app (l m : Ls) : strs (l ++ m) = strs l ++ strs m := by simp [strs]
theorem strs_len (l : Ls) : (strs l).length = l.length := by simp [strs]
theorem strs_one (l : Ls) : ∀ u ∈ strs l, u.oneCell' = true := by
  intro u hu
  obtain ⟨x, _, rfl⟩ := List.mem_map.1 hu
  rfl
theorem one_new2 (w : World) (x : Value) (e : TypeId) : ∀ j u, [x][j]? = some u → (w.alloc (.cells #[x] e)).cell? ((⟨w.heap.size, 0, none⟩ : Addr).add j) = some u := by
  intro j u hj
  match j, hj with
  | 0, hj => simp at hj; subst hj; simp [Addr.add]
theorem one_one2 (s : ByteArray) : ∀ u ∈ [Value.string s], u.oneCell' = true := by
  intro u hu; simp at hu; subst hu; rfl
theorem sl_of_own {W : World} {base : Nat} {e : TypeId} {size : Nat} {v : Value} {k : Nat} {xs : List Value} (h : W.ownsRow base e size v k xs) : ∃ a n c, v = .slice a n c := by
  rcases h.2 with ⟨hv, _⟩ | ⟨g, cap, cur, hv, _⟩ <;> exact ⟨_, _, _, hv⟩
/-- an element of a list that came in -/
theorem tx_at {w : World} {a : Option Addr} {n cap : Nat} {ss : Ls} (h : Tx w a n cap ss) {i : Nat} (hi : i < n) : ∃ g off, a = some ⟨g, off, none⟩ ∧ g < w.heap.size ∧ w.cell? ⟨g, off + i, none⟩ = some (.string (ss.getD i ByteArray.empty)) := by
  rcases h.cells with h0 | ⟨g, off, e, hlt, hc⟩
  · omega
  · exact ⟨g, off, e, hlt, hc i hi⟩
theorem drop_at {ss : Ls} {i : Nat} (h : i < ss.length) : ss.drop i = ss.getD i ByteArray.empty :: ss.drop (i + 1) := by
  rw [List.drop_eq_getElem_cons h]; simp [List.getD, List.getElem?_eq_getElem h]
theorem mem_at {ss : Ls} {i : Nat} (h : i < ss.length) : ss.getD i ByteArray.empty ∈ ss := by
  simp [List.getD, List.getElem?_eq_getElem h]

theorem own_tx {W : World} {base : Nat} {v : Value} {L : Ls} (h : W.ownsRow base 9 1 v L.length (strs L)) : ∃ a cap, v = .slice a L.length cap ∧ Tx W a L.length cap L ∧ cap ≤ 9223372036854775807 := by
  obtain ⟨a, cap, hv, hT⟩ := Pa.tx_of_owns h
  refine ⟨a, cap, hv, hT, ?_⟩
  rcases h.2 with ⟨h1, h2⟩ | ⟨g, c2, cur, h1, _, _, _, h2, _⟩
  · rw [hv] at h1
    have : cap = 0 := by simpa using (Value.slice.inj h1).2.2
    omega
  · rw [hv] at h1
    have : cap = c2 := (Value.slice.inj h1).2.2
    unfold maxLen at h2
    omega
theorem tx_take {w : World} {a : Option Addr} {n cap : Nat} {ss : Ls} (h : Tx w a n cap ss) (k : Nat) (hk : k ≤ n) : Tx w a k cap (ss.take k) := by
  refine ⟨by rw [List.length_take, h.len]; omega, Nat.le_trans hk h.le, fun e => ⟨by have := (h.nil e).1; omega, (h.nil e).2⟩, ?_⟩
  rcases h.cells with h0 | ⟨g, off, e, hlt, hc⟩
  · exact .inl (by omega)
  · refine .inr ⟨g, off, e, hlt, fun i hi => ?_⟩
    rw [hc i (by omega)]
    simp [List.getD, List.getElem?_take_of_lt hi]
theorem tx_drop {w : World} {g off : Nat} {n cap : Nat} {ss : Ls} (h : Tx w (some ⟨g, off, none⟩) n cap ss) (k : Nat) (hk : k < n) : Tx w (some ⟨g, off + k, none⟩) (n - k) (cap - k) (ss.drop k) := by
  refine ⟨by rw [List.length_drop, h.len], by have := h.le; omega, (fun e => by cases e), ?_⟩
  rcases h.cells with h0 | ⟨g1, o1, e, hlt, hc⟩
  · omega
  · obtain ⟨rfl, rfl⟩ : g = g1 ∧ off = o1 := by simpa using e
    refine .inr ⟨g, off + k, rfl, hlt, fun i hi => ?_⟩
    rw [Nat.add_assoc, hc (k + i) (by omega)]
    simp [List.getD]

end Go.Proofs.YtmpppdbomdepoaaGreatDoor.So
