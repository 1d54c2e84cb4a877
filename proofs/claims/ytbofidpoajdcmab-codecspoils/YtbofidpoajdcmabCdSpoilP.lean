/- Up to four bytes side by side, changed in any way, change a sum, in plain words; no program is named here. -/
import Derived.Test.YtbofidpoajdcmabCdSumP
import Derived.Test.YtbofidpoajdcmabCdPlain
namespace Go.Proofs.Ytbofidpoajdcmab.Cd
open Go.RowKit Cu

theorem xor_zero_eq {a b : U} (h : a ^^^ b = 0#32) : a = b := by
  apply BitVec.eq_of_getLsbD_eq
  intro i hi
  have := congrArg (fun z : U => z.getLsbD i) h
  simp only [BitVec.getLsbD_xor, BitVec.getLsbD_zero] at this
  cases ha : a.getLsbD i <;> cases hb : b.getLsbD i <;> simp_all
theorem xor_self0 (a : U) : a ^^^ a = 0#32 := BitVec.xor_self
theorem step_zero {z : U} (h : step z = 0#32) : z = 0#32 := by
  by_cases hm : z.toNat % 2 = 0
  · have h1 := step_even z hm
    rw [h] at h1
    apply BitVec.eq_of_toNat_eq
    simp at h1 ⊢
    omega
  · have h1 := step_odd z (by omega)
    rw [h] at h1
    have h2 := congrArg (fun t : U => t.getLsbD 31) h1
    have h3 : rule.getLsbD 31 = true := by decide
    simp only [BitVec.getLsbD_xor, BitVec.getLsbD_ushiftRight, BitVec.getLsbD_zero, h3] at h2
    have h4 : z.getLsbD (1 + 31) = false := BitVec.getLsbD_of_ge _ _ (by omega)
    rw [h4] at h2
    simp at h2
theorem step_inj {a b : U} (h : step a = step b) : a = b := by
  apply xor_zero_eq
  apply step_zero
  rw [step_xor, h, xor_self0]
theorem moves_inj : ∀ (n : Nat) {a b : U}, moves n a = moves n b → a = b
  | 0, _, _, h => h
  | n + 1, _, _, h => step_inj (moves_inj n h)
theorem moves_zero : ∀ n : Nat, moves n 0#32 = 0#32
  | 0 => rfl
  | n + 1 => by rw [moves, show step 0#32 = 0#32 by decide, moves_zero n]
theorem xor_right {a b c : U} (h : a ^^^ c = b ^^^ c) : a = b := by
  have h2 := congrArg (fun t : U => t ^^^ c) h
  simp only [BitVec.xor_assoc, BitVec.xor_self, BitVec.xor_zero] at h2
  exact h2
theorem runs_inj : ∀ (l : Bs) {a b : U}, runs a l = runs b l → a = b
  | [], _, _, h => h
  | c :: l, a, b, h => xor_right (moves_inj 8 (runs_inj l (a := further a c) (b := further b c) h))
theorem runs_two : ∀ (q q' : Bs) (a b : U), q.length = q'.length → runs a q ^^^ runs b q' = runs (a ^^^ b) (List.zipWith (· ^^^ ·) q q')
  | [], [], _, _, _ => rfl
  | c :: q, d :: q', a, b, h => by
    show runs (further a c) q ^^^ runs (further b d) q' = runs (further (a ^^^ b) (c ^^^ d)) (List.zipWith (· ^^^ ·) q q')
    rw [runs_two q q' _ _ (by simpa using h)]
    congr 1
    unfold further
    rw [← moves_xor, low_xor, xor_four]
theorem val_lt' : ∀ l : Bs, val l < 256 ^ l.length
  | [] => by simp [val]
  | c :: l => by
    have h1 := val_lt' l
    have h2 := c.toNat_lt
    rw [val, List.length_cons, Nat.pow_succ]
    omega
theorem low_more (c : UInt8) (v : Nat) (hv : v < 2 ^ 24) : low c ^^^ BitVec.ofNat 32 (v * 2 ^ 8) = BitVec.ofNat 32 (c.toNat + 256 * v) := by
  have hc := c.toNat_lt
  have e : (BitVec.ofNat 32 (c.toNat + 256 * v)).toNat = c.toNat + 256 * v := by rw [BitVec.toNat_ofNat, Nat.mod_eq_of_lt (by omega)]
  have h := parted (BitVec.ofNat 32 (c.toNat + 256 * v))
  have hb : bot (BitVec.ofNat 32 (c.toNat + 256 * v)) = c := by
    apply UInt8.toNat_inj.1
    rw [bot_toNat, e]
    omega
  rw [hb, e, show (c.toNat + 256 * v) / 2 ^ 8 = v by omega] at h
  exact h.symm
theorem runs_num : ∀ (δ : Bs) (x : U), δ.length ≤ 4 → runs x δ = moves (8 * δ.length) (x ^^^ BitVec.ofNat 32 (val δ))
  | [], x, _ => by simp [runs, val, moves]
  | c :: δ, x, h => by
    simp only [List.length_cons] at h
    have hv := val_lt' δ
    have hv2 : val δ < 2 ^ 24 := by
      have : 256 ^ δ.length ≤ 256 ^ 3 := Nat.pow_le_pow_right (by omega) (by omega)
      have : (256 : Nat) ^ 3 = 2 ^ 24 := by decide
      omega
    have hm : moves 8 (BitVec.ofNat 32 (val δ * 2 ^ 8)) = BitVec.ofNat 32 (val δ) := by
      apply BitVec.eq_of_toNat_eq
      rw [moves_pow 8 _ (val δ) (by rw [BitVec.toNat_ofNat, Nat.mod_eq_of_lt (by omega)]), BitVec.toNat_ofNat, Nat.mod_eq_of_lt (by omega)]
    show runs (further x c) δ = _
    rw [runs_num δ _ (by omega), ← hm, further, ← moves_xor, ← moves_add, List.length_cons, show 8 + 8 * δ.length = 8 * (δ.length + 1) by omega, BitVec.xor_assoc, low_more c (val δ) hv2]
    rfl
theorem val_zero : ∀ l : Bs, val l = 0 → ∀ c ∈ l, c = 0
  | [], _, c, hc => by simp at hc
  | d :: l, h, c, hc => by
    rw [val] at h
    rcases List.mem_cons.1 hc with e | e
    · rw [e]; apply UInt8.toNat_inj.1; show d.toNat = 0; omega
    · exact val_zero l (by omega) c e
theorem runs_none {δ : Bs} (h4 : δ.length ≤ 4) (h : runs 0#32 δ = 0#32) : ∀ c ∈ δ, c = 0 := by
  rw [runs_num δ _ h4] at h
  have h1 : (0#32 : U) ^^^ BitVec.ofNat 32 (val δ) = 0#32 := moves_inj _ (h.trans (moves_zero _).symm)
  have h2 : BitVec.ofNat 32 (val δ) = 0#32 := (xor_zero_eq h1).symm
  have h3 := congrArg BitVec.toNat h2
  have hv := val_lt' δ
  have : 256 ^ δ.length ≤ 256 ^ 4 := Nat.pow_le_pow_right (by omega) h4
  rw [BitVec.toNat_ofNat, Nat.mod_eq_of_lt (by have : (256 : Nat) ^ 4 = 2 ^ 32 := by decide
                                               omega)] at h3
  exact val_zero δ (by simpa using h3)
theorem zip_self_ne {q q' : Bs} (hl : q.length = q'.length) (h : ∀ c ∈ List.zipWith (· ^^^ ·) q q', c = 0) : q = q' := by
  induction q generalizing q' with
  | nil => cases q' with
    | nil => rfl
    | cons => simp at hl
  | cons a q ih => cases q' with
    | nil => simp at hl
    | cons b q' =>
      have h0 := h (a ^^^ b) (by simp)
      rw [ih (by simpa using hl) (fun c hc => h c (by simp [hc]))]
      congr 1
      have : a ^^^ b = 0 := h0
      have h2 := congrArg (· ^^^ b) this
      simp only [UInt8.xor_assoc, UInt8.xor_self, UInt8.xor_zero, UInt8.zero_xor] at h2
      exact h2
/-- a change of up to four bytes is seen -/
theorem sum_seen (p q q' r : Bs) (hl : q.length = q'.length) (h4 : q.length ≤ 4) (h : sumP (p ++ q ++ r) = sumP (p ++ q' ++ r)) : q = q' := by
  unfold sumP at h
  have h1 : runs (BitVec.allOnes 32) (p ++ q ++ r) = runs (BitVec.allOnes 32) (p ++ q' ++ r) := by
    have := congrArg (fun t : U => ~~~ t) h
    simpa using this
  rw [runs_app, runs_app, runs_app, runs_app] at h1
  have h2 := runs_inj r h1
  apply zip_self_ne hl
  apply runs_none (by simp; omega)
  have h3 := runs_two q q' (runs (BitVec.allOnes 32) p) (runs (BitVec.allOnes 32) p) hl
  rw [h2, xor_self0, xor_self0] at h3
  exact h3.symm
/-- the first j of the bytes from k on changed by ds -/
def spo (l : Bs) (k : Nat) (ds : Bs) (j : Nat) : Bs := l.take k ++ List.zipWith (· ^^^ ·) ((l.drop k).take j) (ds.take j) ++ l.drop (k + j)
theorem spo_zero (l : Bs) (k : Nat) (ds : Bs) : spo l k ds 0 = l := by simp [spo]
theorem spo_len (l : Bs) (k : Nat) (ds : Bs) (j : Nat) (h : k + j ≤ l.length) (hj : j ≤ ds.length) : (spo l k ds j).length = l.length := by
  simp [spo]; omega
theorem spo_at (l : Bs) (k : Nat) (ds : Bs) (j : Nat) (h : k + j < l.length) (hj : j < ds.length) : (spo l k ds j)[k + j]? = some (l.getD (k + j) 0) := by
  unfold spo
  rw [List.getElem?_append_right (by simp; omega)]
  rw [show k + j - (l.take k ++ List.zipWith (· ^^^ ·) ((l.drop k).take j) (ds.take j)).length = 0 by simp; omega]
  rw [List.getElem?_drop, Nat.add_zero, List.getElem?_eq_getElem h]
  simp [List.getD, List.getElem?_eq_getElem h]
theorem spo_set (l : Bs) (k : Nat) (ds : Bs) (j : Nat) (h : k + j < l.length) (hj : j < ds.length) : (spo l k ds j).set (k + j) (l.getD (k + j) 0 ^^^ ds.getD j 0) = spo l k ds (j + 1) := by
  unfold spo
  have h1 : (l.drop k).take (j + 1) = (l.drop k).take j ++ [l.getD (k + j) 0] := by
    rw [List.take_succ_eq_append_getElem (by simp; omega)]
    simp [List.getD, List.getElem?_eq_getElem h]
  have h2 : ds.take (j + 1) = ds.take j ++ [ds.getD j 0] := by
    rw [List.take_succ_eq_append_getElem hj]
    simp [List.getD, List.getElem?_eq_getElem hj]
  rw [h1, h2, List.zipWith_append (by simp; omega), List.drop_eq_getElem_cons h, List.set_append_right _ _ (by simp; omega)]
  rw [show k + j - (l.take k ++ List.zipWith (· ^^^ ·) ((l.drop k).take j) (ds.take j)).length = 0 by simp; omega]
  simp [Nat.add_assoc]
/-- none of them changes anything -/
def still (ds : Bs) (j : Nat) : Bool := (ds.take j).all (· == 0)
theorem still_succ (ds : Bs) (j : Nat) (hj : j < ds.length) : still ds (j + 1) = (still ds j && (ds.getD j 0 == 0)) := by
  unfold still
  rw [List.take_succ_eq_append_getElem hj, List.all_append]
  simp only [List.all_cons, List.all_nil, Bool.and_true, List.getD, List.getElem?_eq_getElem hj, Option.getD_some]
theorem zip_zero {q ds : Bs} (hl : q.length = ds.length) (h : ∀ c ∈ ds, c = 0) : List.zipWith (· ^^^ ·) q ds = q := by
  induction q generalizing ds with
  | nil => simp
  | cons a q ih => cases ds with
    | nil => simp at hl
    | cons b ds =>
      have hb := h b (by simp)
      subst hb
      simp only [List.zipWith_cons_cons, UInt8.xor_zero]
      rw [ih (by simpa using hl) (fun c hc => h c (by simp [hc]))]
theorem zip_still {q ds : Bs} (hl : q.length = ds.length) (h : List.zipWith (· ^^^ ·) q ds = q) : ∀ c ∈ ds, c = 0 := by
  induction q generalizing ds with
  | nil => cases ds with
    | nil => simp
    | cons => simp at hl
  | cons a q ih => cases ds with
    | nil => simp at hl
    | cons b ds =>
      simp only [List.zipWith_cons_cons, List.cons.injEq] at h
      intro c hc
      rcases List.mem_cons.1 hc with e | e
      · rw [e]
        have h2 := congrArg (a ^^^ ·) h.1
        simp only [← UInt8.xor_assoc, UInt8.xor_self, UInt8.zero_xor] at h2
        exact h2
      · exact ih (by simpa using hl) h.2 c e
theorem sum_spo (l : Bs) (k : Nat) (ds : Bs) (j : Nat) (h : k + j ≤ l.length) (hj : j ≤ ds.length) (h4 : j ≤ 4) : decide (sumP (spo l k ds j) = sumP l) = still ds j := by
  have e : l = l.take k ++ (l.drop k).take j ++ l.drop (k + j) := by
    rw [List.append_assoc, ← List.drop_drop, List.take_append_drop, List.take_append_drop]
  have hq : ((l.drop k).take j).length = (ds.take j).length := by simp; omega
  cases hs : still ds j with
  | true =>
    have hz : ∀ c ∈ ds.take j, c = 0 := by
      unfold still at hs
      intro c hc
      have := List.all_eq_true.1 hs c hc
      simpa using this
    have : spo l k ds j = l := by
      conv => rhs; rw [e]
      unfold spo
      rw [zip_zero hq hz]
    rw [this]; simp
  | false =>
    rw [decide_eq_false_iff_not]
    intro hx
    have h2 : sumP (l.take k ++ (l.drop k).take j ++ l.drop (k + j)) = sumP (l.take k ++ List.zipWith (· ^^^ ·) ((l.drop k).take j) (ds.take j) ++ l.drop (k + j)) := by
      rw [← e]; exact hx.symm
    have h3 := sum_seen _ _ _ _ (by simp; omega) (by simp; omega) h2
    have h5 := zip_still hq h3.symm
    have : still ds j = true := by
      unfold still
      rw [List.all_eq_true]
      intro c hc
      rw [h5 c hc]; rfl
    rw [this] at hs
    cases hs
end Go.Proofs.Ytbofidpoajdcmab.Cd
