/- Plain facts for the document's Key: the fields joined one by one. -/
import Derived.Test.YtmaenfcnkcaojaaDoorKyRefPlain
import Derived.Test.YtmaenfcnkcaojaaDoorLnFields
namespace Go.Proofs.YtmaenfcnkcaojaaDoor.Ky
open Go.RowKit

theorem ln_join (b : Bs) : ∀ l : List Bs, ∀ k, (join b (l.take k)).length ≤ (join b l).length
  | [], _ => by simp [join]
  | [x], 0 => by simp [join]
  | [x], k + 1 => by simp [join]
  | x :: y :: l, 0 => by simp [join]
  | x :: y :: l, 1 => by simp [join]
  | x :: y :: l, k + 2 => by
    have := ln_join b (y :: l) (k + 1)
    simp only [List.take_succ_cons, join, List.length_append] at this ⊢
    omega
theorem ln_drop (b : Bs) (l : List Bs) (k : Nat) : (join b (l.drop k)).length ≤ (join b l).length := by
  by_cases h : k < l.length
  · rw [join_rest b l k h]; simp
  · rw [List.drop_eq_nil_of_le (by omega)]; simp [join]
/-- the fields of which the key is made -/
theorem key_steps {o : Ord} {s : Bs} (hok : okO o = true) (hfr : 0 < o.fr) : ∃ L : List Bs, key o s = join (btw o) L ∧ (join (btw o) L).length ≤ s.length ∧
    (∀ k n : Nat, (n : Int) = o.fr + k → (k < L.length ↔ ((n : Int) ≤ ((fields o s).length : Int) ∧ (o.to = 0 ∨ (n : Int) ≤ o.to)))) ∧
    (∀ (k m : Nat), k < L.length → (m : Int) = o.fr + k - 1 → (fields o s)[m]? = L[k]?) := by
  have hj := fields_join o s
  have hd := ln_drop (btw o) (fields o s) (o.fr.toNat - 1)
  rw [hj] at hd
  by_cases h : o.to = 0
  · refine ⟨(fields o s).drop (o.fr.toNat - 1), by rw [key_in hok hfr, if_pos h], hd, ?_, ?_⟩
    · intro k n hn
      rw [List.length_drop]
      constructor
      · intro hk; exact ⟨by omega, .inl h⟩
      · intro hk; omega
    · intro k m hk hm
      rw [List.getElem?_drop]
      congr 1; omega
  · have hft : o.fr ≤ o.to := by
      have : okO o = true := hok
      unfold okO at this; simp at this; omega
    refine ⟨((fields o s).drop (o.fr.toNat - 1)).take (o.to.toNat + 1 - o.fr.toNat), by rw [key_in hok hfr, if_neg h], Nat.le_trans (ln_join _ _ _) hd, ?_, ?_⟩
    · intro k n hn
      rw [List.length_take, List.length_drop]
      constructor
      · intro hk; exact ⟨by omega, .inr (by omega)⟩
      · rintro ⟨h1, h2⟩; rcases h2 with h2 | h2 <;> omega
    · intro k m hk hm
      rw [List.length_take] at hk
      rw [List.getElem?_take_of_lt (by omega), List.getElem?_drop]
      congr 1; omega
theorem split_len (p : UInt8) : ∀ l : Bs, (split p l).length ≤ l.length + 1
  | [] => by simp [split]
  | c :: r => by
    have i := split_len p r
    rw [split]
    split
    · simp; omega
    · split
      · simp
      · rename_i h; rw [h] at i; simp at i ⊢; omega
theorem parts_len : ∀ (f : Nat) (l : Bs), (parts f l).length ≤ l.length
  | _, [] => by simp [parts]
  | 0, _ :: _ => by simp [parts]
  | f + 1, c :: r => by
    have h1 := part2_lt c r
    have h2 := parts_len f (part2 (c :: r))
    rw [parts]; simp; omega
theorem fields_len (o : Ord) (l : Bs) : (fields o l).length ≤ l.length + 1 := by
  unfold fields
  split
  · exact Nat.le_succ_of_le (parts_len _ _)
  · exact split_len _ _
theorem bt_app (a b : Bs) : Ln.bt (a ++ b) = Ln.bt a ++ Ln.bt b := by
  unfold Ln.bt
  apply ByteArray.ext
  simp
/-- one step of the loop -/
theorem join_go (b : Bs) (L : List Bs) (k : Nat) (x : Bs) (h : L[k]? = some x) : (k = 0 → Ln.bt (join b (L.take (k + 1))) = Ln.bt (join b (L.take k)) ++ Ln.bt x) ∧ (0 < k → Ln.bt (join b (L.take (k + 1))) = (Ln.bt (join b (L.take k)) ++ Ln.bt b) ++ Ln.bt x) := by
  obtain ⟨hl, rfl⟩ := List.getElem?_eq_some_iff.1 h
  rw [join_more b L k hl]
  constructor
  · intro h0; subst h0; simp [join]; rw [← bt_app]; rfl
  · intro h0; rw [if_neg (by omega), bt_app, bt_app]
end Go.Proofs.YtmaenfcnkcaojaaDoor.Ky
