/- A call that was put is got, in plain words; no program is named here. -/
import Derived.Test.YtbofidpoajdcmabCdGet
namespace Go.Proofs.Ytbofidpoajdcmab.Cd
open Go.RowKit Cu Tr

theorem takeP_app {n : Nat} {x r : Bs} (h : x.length = n) : takeP n (x ++ r) = some (x, r) := by
  subst h
  unfold takeP
  rw [if_pos (by simp)]
  simp
theorem val_le : ∀ (k x : Nat), val (le k x) = x % 256 ^ k
  | 0, x => by simp [le, val, Nat.mod_one]
  | k + 1, x => by
    rw [le, val, val_le k, UInt8.toNat_ofNat', show 256 ^ (k + 1) = 256 * 256 ^ k from by rw [Nat.pow_succ, Nat.mul_comm], Nat.mod_mul]
theorem numN_le8 (k x : Nat) (r : Bs) (h : x < 256 ^ k) : numN k (le k x ++ r) = some (x, r) := by
  unfold numN
  rw [takeP_app (le_len k x)]
  simp only [Option.map_some, val_le, Nat.mod_eq_of_lt h]
def inR (z : Int) : Prop := -9223372036854775808 ≤ z ∧ z ≤ 9223372036854775807
theorem s64_u64 (z : Int) (h : inR z) : s64 (u64 z) = z := by
  unfold inR at h
  unfold s64 u64
  split <;> omega
theorem intP_put (z : Int) (r : Bs) (h : inR z) : intP (numB z ++ r) = some (z, r) := by
  unfold intP numB
  rw [numN_le8 8 _ r (u64_lt z)]
  simp only [Option.map_some, s64_u64 z h]
theorem lenP_put (m n : Nat) (r : Bs) (h : n ≤ m) (hm : m ≤ 65536) : lenP m (lenB n ++ r) = some (n, r) := by
  unfold lenP lenB
  rw [numN_le8 4 n r (by omega)]
  simp [h]
theorem txtP_put (x r : Bs) (h : x.length ≤ 65536) : txtP (txtB x ++ r) = some (x, r) := by
  unfold txtP txtB
  rw [List.append_assoc, lenP_put 65536 _ _ h (by omega)]
  simp only [Option.bind_some]
  exact takeP_app rfl
theorem intsP_put : ∀ (zs : List Int) (r : Bs), (∀ z ∈ zs, inR z) → intsP zs.length (numsB zs ++ r) = some (zs, r)
  | [], r, _ => by simp [intsP, numsB]
  | z :: zs, r, h => by
    rw [List.length_cons, intsP, show numsB (z :: zs) = numB z ++ numsB zs from rfl, List.append_assoc, intP_put z _ (h z (by simp))]
    simp only [Option.bind_some]
    rw [intsP_put zs r (fun y hy => h y (by simp [hy]))]
    rfl
/-- numbers that an int can be -/
def Wf (c : Ca) : Prop := ∀ z ∈ [c.mode, c.user, c.group, c.time, c.eu, c.eg, c.em, c.ed], inR z
theorem getP_put (c : Ca) (r : Bs) (hm : mayPut c = true) (hw : Wf c) : getP (putP c ++ r) = some (c, r) := by
  simp only [mayPut, Bool.and_eq_true, decide_eq_true_eq] at hm
  obtain ⟨⟨hm1, hm2⟩, hm3⟩ := hm
  unfold Wf at hw
  obtain ⟨kind, path, other, mode, user, group, time, data, eu, eg, em, ed⟩ := c
  simp only at hm1 hm2 hm3 hw
  unfold getP g1 putP
  simp only [List.append_assoc]
  have h1 : numN 1 ([kind] ++ (txtB (bs path) ++ (txtB (bs other) ++ (numsB [mode, user, group, time] ++ (txtB data ++ (numsB [eu, eg, em, ed] ++ r)))))) = some (kind.toNat, txtB (bs path) ++ (txtB (bs other) ++ (numsB [mode, user, group, time] ++ (txtB data ++ (numsB [eu, eg, em, ed] ++ r))))) := by
    unfold numN
    rw [takeP_app (x := [kind]) (n := 1) rfl]
    simp [val]
  rw [h1]
  simp only [Option.bind_some, g2]
  rw [txtP_put _ _ (by rw [bs_len]; exact hm1)]
  simp only [Option.bind_some]
  rw [txtP_put _ _ (by rw [bs_len]; exact hm2)]
  simp only [Option.bind_some, g3]
  have h4 := intsP_put [mode, user, group, time] (txtB data ++ (numsB [eu, eg, em, ed] ++ r)) (fun z hz => hw z (by simp only [List.mem_cons, List.not_mem_nil, or_false] at hz ⊢; rcases hz with h | h | h | h <;> simp [h]))
  rw [show [mode, user, group, time].length = 4 from rfl] at h4
  rw [h4]
  simp only [Option.bind_some, g4]
  rw [txtP_put _ _ hm3]
  simp only [Option.bind_some, g5]
  have h5 := intsP_put [eu, eg, em, ed] r (fun z hz => hw z (by simp only [List.mem_cons, List.not_mem_nil, or_false] at hz ⊢; rcases hz with h | h | h | h <;> simp [h]))
  rw [show [eu, eg, em, ed].length = 4 from rfl] at h5
  rw [h5]
  simp [g6, ba]
/-! ### with more behind it -/
theorem takeP_more {n : Nat} {l x r : Bs} (h : takeP n l = some (x, r)) (m : Bs) : takeP n (l ++ m) = some (x, r ++ m) := by
  unfold takeP at h ⊢
  split at h
  · rename_i hn
    simp at h
    rw [if_pos (by simp; omega), List.take_append_of_le_length hn, List.drop_append_of_le_length hn, h.1, h.2]
  · simp at h
theorem numN_more {k : Nat} {l r : Bs} {x : Nat} (h : numN k l = some (x, r)) (m : Bs) : numN k (l ++ m) = some (x, r ++ m) := by
  simp only [numN, Option.map_eq_some_iff] at h ⊢
  obtain ⟨p, hp, h⟩ := h
  injection h with h1 h2
  exact ⟨(p.1, p.2 ++ m), takeP_more (x := p.1) (r := p.2) hp m, by rw [← h1, ← h2]⟩
theorem lenP_more {k : Nat} {l r : Bs} {x : Nat} (h : lenP k l = some (x, r)) (m : Bs) : lenP k (l ++ m) = some (x, r ++ m) := by
  simp only [lenP, Option.bind_eq_some_iff] at h ⊢
  obtain ⟨p, hp, h⟩ := h
  refine ⟨(p.1, p.2 ++ m), numN_more (x := p.1) (r := p.2) hp m, ?_⟩
  split at h
  · rename_i hle
    injection h with h
    rw [if_pos hle, h]
  · simp at h
theorem txtP_more {l x r : Bs} (h : txtP l = some (x, r)) (m : Bs) : txtP (l ++ m) = some (x, r ++ m) := by
  simp only [txtP, Option.bind_eq_some_iff] at h ⊢
  obtain ⟨p, hp, h⟩ := h
  exact ⟨(p.1, p.2 ++ m), lenP_more (x := p.1) (r := p.2) hp m, takeP_more h m⟩
theorem intP_more {l r : Bs} {x : Int} (h : intP l = some (x, r)) (m : Bs) : intP (l ++ m) = some (x, r ++ m) := by
  simp only [intP, Option.map_eq_some_iff] at h ⊢
  obtain ⟨p, hp, h⟩ := h
  injection h with h1 h2
  exact ⟨(p.1, p.2 ++ m), numN_more (x := p.1) (r := p.2) hp m, by rw [← h1, ← h2]⟩
theorem intsP_more : ∀ {k : Nat} {l r : Bs} {x : List Int}, intsP k l = some (x, r) → ∀ m : Bs, intsP k (l ++ m) = some (x, r ++ m)
  | 0, l, r, x, h, m => by simp [intsP] at h ⊢; exact ⟨h.1, by rw [h.2]⟩
  | k + 1, l, r, x, h, m => by
    simp only [intsP, Option.bind_eq_some_iff, Option.map_eq_some_iff] at h ⊢
    obtain ⟨p, hp, q, hq, h⟩ := h
    injection h with h1 h2
    exact ⟨(p.1, p.2 ++ m), intP_more (x := p.1) (r := p.2) hp m, (q.1, q.2 ++ m), intsP_more (x := q.1) (r := q.2) hq m, by rw [← h1, ← h2]⟩
theorem getP_more {l r : Bs} {c : Ca} (h : getP l = some (c, r)) (m : Bs) : getP (l ++ m) = some (c, r ++ m) := by
  simp only [getP, g1, g2, g3, g4, g5, g6, Option.bind_eq_some_iff] at h ⊢
  obtain ⟨p1, h1, p2, h2, p3, h3, p4, h4, p5, h5, p6, h6, h⟩ := h
  injection h with h
  injection h with hc h
  exact ⟨(p1.1, p1.2 ++ m), numN_more (x := p1.1) (r := p1.2) h1 m, (p2.1, p2.2 ++ m), txtP_more (x := p2.1) (r := p2.2) h2 m, (p3.1, p3.2 ++ m), txtP_more (x := p3.1) (r := p3.2) h3 m, (p4.1, p4.2 ++ m), intsP_more (x := p4.1) (r := p4.2) h4 m, (p5.1, p5.2 ++ m), txtP_more (x := p5.1) (r := p5.2) h5 m, (p6.1, p6.2 ++ m), intsP_more (x := p6.1) (r := p6.2) h6 m, by rw [← hc, ← h]⟩
theorem getP_less (c : Ca) (hm : mayPut c = true) (hw : Wf c) (i : Nat) (hi : i < (putP c).length) : getP ((putP c).take i) = none := by
  cases h : getP ((putP c).take i) with
  | none => rfl
  | some p =>
    have h1 := getP_more (c := p.1) (r := p.2) h ((putP c).drop i)
    rw [List.take_append_drop] at h1
    have h2 := getP_put c [] hm hw
    rw [List.append_nil, h1] at h2
    injection h2 with h2
    injection h2 with _ h2
    have : ((putP c).drop i).length = 0 := by
      have := congrArg List.length h2
      simp at this ⊢
      omega
    rw [List.length_drop] at this
    omega
end Go.Proofs.Ytbofidpoajdcmab.Cd
