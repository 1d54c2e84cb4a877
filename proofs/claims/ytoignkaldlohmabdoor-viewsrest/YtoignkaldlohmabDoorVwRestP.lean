/- A line joined with one that has just its key, in plain words. -/
import Derived.Test.YtoignkaldlohmabDoorVwJoin
set_option linter.unusedVariables false
namespace Go.Proofs.YtoignkaldlohmabDoor.Vw
open Go.RowKit Cu

theorem parts_clean (p : UInt8 → Bool) : ∀ (l : Bs), ∀ x ∈ Ln.parts p l, ∀ c ∈ x.1, p c = false
  | [], x, hx => by simp [Ln.parts] at hx
  | d :: l, x, hx => by
    have ih := parts_clean p l
    rw [Ln.parts] at hx
    by_cases hd : p d = true
    · rw [if_pos hd] at hx
      rcases List.mem_cons.1 hx with rfl | hx
      · intro c hc; simp at hc
      · exact ih x hx
    · rw [if_neg hd] at hx
      have hd' : p d = false := by simpa using hd
      cases hq : Ln.parts p l with
      | nil =>
        rw [hq] at hx
        have : x = ([d], false) := by simpa using hx
        subst this
        intro c hc
        have : c = d := by simpa using hc
        rw [this]; exact hd'
      | cons y r =>
        rw [hq] at hx ih
        rcases List.mem_cons.1 hx with rfl | hx
        · intro c hc
          rcases List.mem_cons.1 hc with rfl | hc
          · exact hd'
          · exact ih y (by simp) c hc
        · exact ih x (by simp [hx])
theorem field_clean (sep : Nat) (h0 : sep ≠ 0) (l : Bs) : ∀ x ∈ Ln.fieldsL sep l, ∀ c ∈ x, Ln.isSep sep c = false := by
  intro x hx c hc
  unfold Ln.fieldsL at hx
  rw [if_neg h0] at hx
  rcases List.mem_append.1 hx with h | h
  · obtain ⟨y, hy, rfl⟩ := List.mem_map.1 h
    exact parts_clean _ l y hy c hc
  · split at h
    · have : x = [] := by simpa using h
      subst this; simp at hc
    · simp at h
theorem parts_one (p : UInt8 → Bool) : ∀ (d : UInt8) (l : Bs), (∀ c ∈ d :: l, p c = false) → Ln.parts p (d :: l) = [(d :: l, false)]
  | d, [], h => by rw [Ln.parts, if_neg (by rw [h d (by simp)]; simp)]; rfl
  | d, e :: l, h => by
    rw [Ln.parts, if_neg (by rw [h d (by simp)]; simp), parts_one p e l (fun c hc => h c (by simp [hc]))]
theorem fields_one (sep : Nat) (h0 : sep ≠ 0) (l : Bs) (h : ∀ c ∈ l, Ln.isSep sep c = false) : Ln.fieldsL sep l = [l] := by
  unfold Ln.fieldsL
  rw [if_neg h0]
  cases l with
  | nil => rfl
  | cons d l => rw [parts_one _ d l h]; rfl
theorem fields_some (sep : Nat) (h0 : sep ≠ 0) (l : Bs) : 0 < (Ln.fieldsL sep l).length := by
  unfold Ln.fieldsL
  rw [if_neg h0]
  cases h : Ln.parts (Ln.isSep sep) l with
  | nil => simp [Ln.lastT]
  | cons y r => simp
/-- what the line is told as -/
theorem rest_join (s : Bs) (sep : UInt8) (h0 : sep ≠ 0) (F : List Bs) (hF : Ln.fieldsL sep.toNat s = F) (k : Nat) (hk : k < F.length) :
    joinP (k + 1) 1 sep [s] [F[k]] = ([F[k] ++ led [sep] (F.eraseIdx k)], 0) := by
  have hs0 : sep.toNat ≠ 0 := fun e => h0 (UInt8.toNat_inj.1 e)
  have h1 : Ln.fieldsL sep.toNat F[k] = [F[k]] := fields_one _ hs0 _ (field_clean _ hs0 s _ (by rw [hF]; exact List.getElem_mem hk))
  have r1 : rowsP (k + 1) sep (btwc sep) [s] = [(F[k], led [sep] (F.eraseIdx k))] := by
    have : k + 1 ≤ F.length := hk
    simp [rowsP, rowP, hF, btwc, h0, this, hk]
  have r2 : rowsP 1 sep (btwc sep) [F[k]] = [(F[k], [])] := by
    simp [rowsP, rowP, h1, led]
  unfold joinP
  rw [r1, r2]
  simp [sortedP, pairsP, toldP]
/-- all but the k-th, as far as i -/
def butN (k i : Nat) (F : List Bs) : List Bs := (F.take i).eraseIdx k
theorem but_zero (k : Nat) (F : List Bs) : butN k 0 F = [] := by simp [butN]
theorem but_all (k : Nat) (F : List Bs) : butN k F.length F = F.eraseIdx k := by simp [butN]
theorem but_at (k : Nat) (F : List Bs) (hk : k < F.length) : butN k (k + 1) F = butN k k F := by
  have hl : (F.take k).length = k := by rw [List.length_take]; omega
  unfold butN
  rw [List.take_succ_eq_append_getElem hk, List.eraseIdx_append_of_length_le (by omega), hl, Nat.sub_self, List.eraseIdx_of_length_le (l := F.take k) (by omega)]
  simp
theorem but_else (k i : Nat) (F : List Bs) (hi : i < F.length) (hne : ¬ i = k) : butN k (i + 1) F = butN k i F ++ [F[i]] := by
  have hl : (F.take i).length = i := by rw [List.length_take]; omega
  unfold butN
  rw [List.take_succ_eq_append_getElem hi]
  by_cases h : k < i
  · rw [List.eraseIdx_append_of_lt_length (by omega)]
  · rw [List.eraseIdx_append_of_length_le (by omega), hl, List.eraseIdx_of_length_le (l := F.take i) (by omega), List.eraseIdx_of_length_le (l := [F[i]]) (by simp; omega)]
theorem led_else (sep : UInt8) (k i : Nat) (F : List Bs) (hi : i < F.length) (hne : ¬ i = k) : led [sep] (butN k (i + 1) F) = led [sep] (butN k i F) ++ [sep] ++ F[i] := by
  rw [but_else k i F hi hne, led_app]; simp [led, List.append_assoc]
end Go.Proofs.YtoignkaldlohmabDoor.Vw
