/- A key is a part of its line: the key up to a field begins the key from its field on, and that one ends the line. -/
import Derived.Test.YtfffhdbicldihabDoorKyRefPlain
namespace Go.Proofs.YtfffhdbicldihabDoor.Ky
open Go.RowKit

theorem join_pre (b : Bs) (l : List Bs) (k : Nat) : ∃ t, join b l = join b (l.take k) ++ t := by
  by_cases h0 : l.take k = []
  · exact ⟨join b l, by rw [h0]; simp [join]⟩
  · by_cases h : k < l.length
    · have e : join b (l.take k ++ l.drop k) = lead b (l.take k) ++ join b (l.drop k) := join_app b _ _ (by intro e; have := congrArg List.length e; rw [List.length_drop, List.length_nil] at this; omega)
      rw [List.take_append_drop, lead_join b _ h0, List.append_assoc] at e
      exact ⟨_, e⟩
    · exact ⟨[], by rw [List.take_of_length_le (by omega)]; simp⟩
theorem join_suf (b : Bs) (l : List Bs) (k : Nat) : ∃ t, join b l = t ++ join b (l.drop k) := by
  by_cases h : k < l.length
  · have := join_rest b l k h
    exact ⟨(join b l).take (lead b (l.take k)).length, by rw [this, List.take_append_drop]⟩
  · exact ⟨join b l, by rw [List.drop_eq_nil_of_le (by omega)]; simp [join]⟩
theorem ok_zero {o : Ord} (h : okO o = true) : okO { o with to := 0 } = true := by
  unfold okO at *; simp only [decide_eq_true_eq] at *; exact ⟨h.1, h.2.1, h.2.2.1, .inl trivial⟩
/-- all that KeysBegin asks -/
theorem begins (o : Ord) (s : Bs) (h : okO { o with to := 0 } = true) :
    (∃ t, key { o with to := 0 } s = key o s ++ t) ∧ (∃ t, s = t ++ key { o with to := 0 } s) ∧ (o.fr ≤ 1 → key { o with to := 0 } s = s) := by
  have hj := fields_join o s
  have f1 : fields { o with to := 0 } s = fields o s := rfl
  have b1 : btw { o with to := 0 } = btw o := rfl
  by_cases h0 : o.fr = 0
  · have e : key { o with to := 0 } s = s := by unfold key; rw [h]; simp [h0]
    rw [e]
    refine ⟨?_, ⟨[], rfl⟩, fun _ => rfl⟩
    cases hk : okO o
    · exact ⟨s, by unfold key; rw [hk]; simp⟩
    · exact ⟨[], by unfold key; rw [hk]; simp [h0]⟩
  · have hp : 0 < o.fr := by unfold okO at h; simp at h; omega
    have e := key_in (o := { o with to := 0 }) (s := s) h hp
    simp only [if_true, f1, b1] at e
    rw [e]
    refine ⟨?_, ?_, ?_⟩
    · cases hk : okO o
      · exact ⟨join (btw o) (List.drop (o.fr.toNat - 1) (fields o s)), by rw [show key o s = [] by unfold key; rw [hk]; rfl]; rfl⟩
      · rw [key_in hk hp]
        split
        · exact ⟨[], by simp⟩
        · exact join_pre _ _ _
    · obtain ⟨t, ht⟩ := join_suf (btw o) (fields o s) (o.fr.toNat - 1)
      rw [hj] at ht
      exact ⟨t, ht⟩
    · intro h1
      rw [show o.fr.toNat - 1 = 0 by omega, List.drop_zero, hj]
theorem begins_none (o : Ord) (s : Bs) (h : okO { o with to := 0 } = false) : key o s = [] ∧ key { o with to := 0 } s = [] := by
  constructor
  · cases hk : okO o
    · unfold key; rw [hk]; rfl
    · rw [ok_zero hk] at h; cases h
  · unfold key; rw [h]; rfl
end Go.Proofs.YtfffhdbicldihabDoor.Ky
