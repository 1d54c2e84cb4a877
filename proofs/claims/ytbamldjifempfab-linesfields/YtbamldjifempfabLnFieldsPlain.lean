/- Fields, in plain words. -/
import Derived.Test.YtbamldjifempfabLnAlive
import Derived.Test.YtbamldjifempfabLnCPlain
namespace Go.Proofs.Ytbamldjifempfab.Ln
open Go.RowKit Pa

theorem endsN_count (p : UInt8 → Bool) (l : List UInt8) : endsN (parts p l) = (l.filter p).length := by
  induction l with
  | nil => rfl
  | cons c l ih =>
    rw [endsN_cons, ih, List.filter_cons]
    split <;> simp
    omega
theorem szs_two (ps : List (List UInt8 × Bool)) : szs ps = (ps.map fun q => q.1.length).sum + endsN ps := by
  induction ps with
  | nil => rfl
  | cons q l ih =>
    obtain ⟨x, b⟩ := q
    cases b <;> simp [szs, sz, endsN] at ih ⊢ <;> omega
theorem tot_runs (ps : List (List UInt8 × Bool)) : tot ((runsOf ps).map bt) = (ps.map fun q => q.1.length).sum := by
  induction ps with
  | nil => rfl
  | cons q l ih =>
    obtain ⟨x, b⟩ := q
    cases x with
    | nil => simpa [runsOf] using ih
    | cons c x =>
      have e : (bt (c :: x)).size = x.length + 1 := rfl
      simp [runsOf, tot] at ih ⊢
      rw [ih, e]
/-- the bytes of the fields by blanks, and the blanks, are all -/
theorem blanks_all (s : ByteArray) : tot (fieldsB 0 s) + (s.data.toList.filter isBlank).length = s.size := by
  have h1 := szs_parts isBlank s.data.toList
  rw [szs_two, endsN_count] at h1
  have h2 : fieldsB 0 s = (runsOf (parts isBlank s.data.toList)).map bt := rfl
  rw [h2, tot_runs]
  exact h1
theorem runs_mem {ps : List (List UInt8 × Bool)} {x : List UInt8} (h : x ∈ runsOf ps) : x ≠ [] ∧ ∃ b, (x, b) ∈ ps := by
  simp only [runsOf, List.mem_filter, List.mem_map] at h
  obtain ⟨⟨q, hq, rfl⟩, hne⟩ := h
  refine ⟨?_, q.2, hq⟩
  intro e
  simp [e] at hne
theorem blank_field (s x : ByteArray) (h : x ∈ fieldsB 0 s) : x.size ≠ 0 ∧ ∀ k (hk : k < x.size), x[k].toNat ≠ 32 ∧ x[k].toNat ≠ 9 := by
  have h2 : fieldsB 0 s = (runsOf (parts isBlank s.data.toList)).map bt := rfl
  rw [h2, List.mem_map] at h
  obtain ⟨y, hy, rfl⟩ := h
  obtain ⟨hne, b, hb⟩ := runs_mem hy
  refine ⟨fun e => hne (List.eq_nil_of_length_eq_zero e), fun k hk => ?_⟩
  have := parts_clean (p := isBlank) s.data.toList _ hb y[k] (List.getElem_mem (by exact hk))
  have e : (bt y)[k] = y[k]'(by exact hk) := rfl
  rw [e]
  simpa [isBlank] using this

/-- the fields, each with its byte ahead -/
def ahead (sep : UInt8) (f : List (List UInt8)) : List UInt8 := (f.map fun x => sep :: x).flatten
theorem ahead_fields (sep : UInt8) (h0 : sep.toNat ≠ 0) : ∀ l : List UInt8, ahead sep (fieldsL sep.toNat l) = sep :: l := by
  have e : ∀ l, fieldsL sep.toNat l = (parts (isSep sep.toNat) l).map (·.1) ++ if lastT (parts (isSep sep.toNat) l) then [[]] else [] := fun l => by unfold fieldsL; rw [if_neg h0]
  intro l
  induction l with
  | nil => rw [e]; simp [parts, lastT, ahead]
  | cons c l ih =>
    rw [e] at ih ⊢
    rw [parts]
    split
    · rename_i hc
      have hc' : c = sep := UInt8.toNat_inj.1 (by simpa [isSep] using hc)
      have hl : lastT (([], true) :: parts (isSep sep.toNat) l) = lastT (parts (isSep sep.toNat) l) := by
        cases parts (isSep sep.toNat) l with
        | nil => rfl
        | cons q r => simp [lastT, List.getLast?_cons]
      rw [hl, hc']
      simp only [List.map_cons, List.cons_append]
      have : ahead sep ([] :: ((parts (isSep sep.toNat) l).map (·.1) ++ if lastT (parts (isSep sep.toNat) l) then [[]] else [])) = sep :: ahead sep ((parts (isSep sep.toNat) l).map (·.1) ++ if lastT (parts (isSep sep.toNat) l) then [[]] else []) := by simp [ahead]
      rw [this, ih]
    · split
      · rename_i h1
        have := parts_none _ h1
        subst this
        simp [lastT, ahead]
      · rename_i x b r h1
        rw [h1] at ih
        have hl : lastT ((c :: x, b) :: r) = lastT ((x, b) :: r) := by
          cases r with
          | nil => rfl
          | cons q r => simp [lastT, List.getLast?_cons]
        rw [hl]
        simp only [List.map_cons, List.cons_append, ahead, List.flatten_cons] at ih ⊢
        simp at ih ⊢
        exact ih
theorem fieldsL_ne (sep : Nat) (h0 : sep ≠ 0) (l : List UInt8) : fieldsL sep l ≠ [] := by
  unfold fieldsL
  rw [if_neg h0]
  cases parts (isSep sep) l with
  | nil => simp [lastT]
  | cons q r => simp
theorem sep_field (s x : ByteArray) (sep : Nat) (h0 : sep ≠ 0) (h : x ∈ fieldsB sep s) : ∀ k (hk : k < x.size), x[k].toNat ≠ sep := by
  intro k hk
  unfold fieldsB fieldsL at h
  rw [if_neg h0, List.mem_map] at h
  obtain ⟨y, hy, rfl⟩ := h
  rcases List.mem_append.1 hy with hy | hy
  · obtain ⟨q, hq, rfl⟩ := List.mem_map.1 hy
    have := parts_clean (p := isSep sep) s.data.toList q hq q.1[k] (List.getElem_mem (by exact hk))
    have e : (bt q.1)[k] = q.1[k]'(by exact hk) := rfl
    rw [e]
    simpa [isSep] using this
  · split at hy
    · simp at hy
      subst hy
      exact absurd hk (Nat.not_lt_zero _)
    · simp at hy
/-- what stands in the bytes when k fields have come -/
def jn (sep : UInt8) (ss : List ByteArray) : List UInt8 := (ahead sep (ss.map fun x => x.data.toList)).drop 1
theorem jn_zero (sep : UInt8) : jn sep [] = [] := rfl
theorem jn_snoc {sep : UInt8} {ss : List ByteArray} {k : Nat} (h : k < ss.length) : jn sep (ss.take (k + 1)) = (jn sep (ss.take k) ++ if k = 0 then [] else [sep]) ++ (ss.getD k ByteArray.empty).data.toList := by
  have e : ss.getD k ByteArray.empty = ss[k] := by simp [List.getD, List.getElem?_eq_getElem h]
  rw [List.take_succ_eq_append_getElem h, e]
  unfold jn ahead
  by_cases hk : k = 0
  · subst hk; simp
  · rw [if_neg hk, List.map_append, List.map_append, List.flatten_append]
    have hne : ((ss.take k).map fun x => x.data.toList) ≠ [] := by
      intro e2
      have h9 : ((ss.take k).map fun x => x.data.toList).length = min k ss.length := by simp
      rw [e2, List.length_nil] at h9
      omega
    have hl : 1 ≤ (((ss.take k).map fun x => x.data.toList).map fun x => sep :: x).flatten.length := by
      cases hh : ((ss.take k).map fun x => x.data.toList) with
      | nil => exact absurd hh hne
      | cons y l => simp
    rw [List.drop_append_of_le_length hl]
    simp
theorem jn_all (s : ByteArray) (sep : UInt8) (h0 : sep.toNat ≠ 0) : jn sep (fieldsB sep.toNat s) = s.data.toList := by
  unfold jn fieldsB
  rw [List.map_map]
  have : (fieldsL sep.toNat s.data.toList).map ((fun x : ByteArray => x.data.toList) ∘ bt) = fieldsL sep.toNat s.data.toList := by
    conv => rhs; rw [← List.map_id (fieldsL sep.toNat s.data.toList)]
    refine List.map_congr_left fun x _ => ?_
    simp [bt]
  rw [this, ahead_fields sep h0]
  rfl
theorem jn_len (sep : UInt8) (ss : List ByteArray) (k : Nat) : (jn sep (ss.take k)).length ≤ (ahead sep (ss.map fun x => x.data.toList)).length := by
  unfold jn
  rw [List.length_drop]
  have : ∀ (a b : List (List UInt8)), (ahead sep a).length ≤ (ahead sep (a ++ b)).length := by
    intro a b; simp [ahead]
  have h := this ((ss.take k).map fun x => x.data.toList) ((ss.drop k).map fun x => x.data.toList)
  rw [← List.map_append, List.take_append_drop] at h
  omega
end Go.Proofs.Ytbamldjifempfab.Ln
