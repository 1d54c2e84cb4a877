/- Numbers with one whole part: the digits behind the point decide. -/
import Derived.Test.YtfffhdbicldihabDoorKyTold
import Derived.Test.YtfffhdbicldihabDoorKyFacts
import Derived.Test.YtfffhdbicldihabDoorKyNum2
namespace Go.Proofs.YtfffhdbicldihabDoor.Ky
open Go.RowKit

theorem behind_cons (c : UInt8) (m : Bs) : behind (c :: m) = if c = 48 ∧ behind m = [] then [] else c :: behind m := by
  generalize hk : m.length = k
  induction k generalizing m with
  | zero =>
    obtain rfl := List.eq_nil_of_length_eq_zero hk
    by_cases h : c = 48
    · subst h; rfl
    · have := behind_stop [] h
      simp only [List.nil_append] at this
      rw [this, if_neg (fun q => h q.1)]; rfl
  | succ k ih =>
    rcases List.eq_nil_or_concat m with rfl | ⟨q, y, rfl⟩
    · simp at hk
    · have hq : q.length = k := by simpa using hk
      rw [List.concat_eq_append, ← List.cons_append]
      by_cases hy : y = 48
      · subst hy
        rw [behind_step, behind_step]; exact ih q hq
      · rw [behind_stop _ hy, behind_stop _ hy, if_neg (by simp)]; rfl
theorem cmp_behind : ∀ (d e : Bs), d.length = e.length → (∀ c ∈ d, dg c = true) → (∀ c ∈ e, dg c = true) → cmpL (behind d) (behind e) = cmpL d e
  | [], [], _, _, _ => rfl
  | c :: l, x :: m, hl, h1, h2 => by
    have i := cmp_behind l m (by simpa using hl) (fun q hq => h1 q (by simp [hq])) (fun q hq => h2 q (by simp [hq]))
    have hc : 48 ≤ c.toNat := by have := h1 c (by simp); unfold dg at this; simp [UInt8.le_iff_toNat_le] at this; omega
    have hx : 48 ≤ x.toNat := by have := h2 x (by simp); unfold dg at this; simp [UInt8.le_iff_toNat_le] at this; omega
    rw [behind_cons, behind_cons]
    by_cases a1 : c < x
    · have hx2 : x ≠ 48 := fun e => by subst e; rw [UInt8.lt_iff_toNat_lt] at a1; have : (48 : UInt8).toNat = 48 := rfl; omega
      rw [if_neg (show ¬ (x = 48 ∧ behind m = []) from fun q => hx2 q.1)]
      split
      · simp [cmpL, a1]
      · simp [cmpL, a1]
    · by_cases a2 : x < c
      · have hc2 : c ≠ 48 := fun e => by subst e; rw [UInt8.lt_iff_toNat_lt] at a2; have : (48 : UInt8).toNat = 48 := rfl; omega
        rw [if_neg (show ¬ (c = 48 ∧ behind l = []) from fun q => hc2 q.1)]
        split
        · simp [cmpL, a1, a2]
        · simp [cmpL, a1, a2]
      · have e : c = x := UInt8.toNat_inj.1 (by rw [UInt8.lt_iff_toNat_lt] at a1 a2; omega)
        subst e
        have hr : cmpL (c :: l) (c :: m) = cmpL l m := by simp [cmpL, a1]
        rw [hr, ← i]
        by_cases h48 : c = 48
        · cases hb : behind l with
          | nil =>
            cases hd : behind m with
            | nil => simp [h48]
            | cons y t => simp [h48, cmpL]
          | cons y t =>
            cases hd : behind m with
            | nil => simp [h48, cmpL]
            | cons z u => simp [h48, cmpL]
        · rw [if_neg (fun q => h48 q.1), if_neg (fun q => h48 q.1)]
          simp [cmpL, a1]
theorem dg_not' {c : UInt8} (h : dg c = true) : bl c = false ∧ c ≠ 45 := by
  have : ∀ n, n < 256 → dg (UInt8.ofNat n) = true → bl (UInt8.ofNat n) = false ∧ UInt8.ofNat n ≠ 45 := by decide +kernel
  have q := this c.toNat c.toNat_lt
  rw [UInt8.ofNat_toNat] at q
  exact q h
/-- a whole part, the point, what stands behind -/
def pd (n : Nat) (l : Bs) : Bs := dec n ++ 46 :: l
theorem unsigned_pd (n : Nat) (l : Bs) (h : ∀ c ∈ l, dg c = true) : unsigned (pd n l) = (whole n, behind l) := by
  obtain ⟨t1, t2⟩ := take_run (l := dec n) (r := 46 :: l) (dec_dg n) (.inr ⟨46, l, rfl, by decide⟩)
  have t3 := (take_run (l := l) (r := []) h (.inl rfl)).1
  rw [List.append_nil] at t3
  unfold unsigned pd
  rw [t1, t2, noughts_dec]
  show (whole n, behind (l.takeWhile dg)) = _
  rw [t3]
theorem dec_pd (n : Nat) (l : Bs) (h : ∀ c ∈ l, dg c = true) : decOf (pd n l) = ⟨if whole n = [] ∧ behind l = [] then 0 else 1, whole n, behind l⟩ := by
  have hu := unsigned_pd n l h
  cases hd : dec n with
  | nil => have := dec_len n; rw [hd] at this; simp at this
  | cons c r =>
    have hc := dec_dg n c (by rw [hd]; simp)
    have e : pd n l = c :: (r ++ 46 :: l) := by unfold pd; rw [hd]; rfl
    rw [e] at hu ⊢
    rw [decOf_plain (c := c) (r := r ++ 46 :: l) (by rw [List.dropWhile_cons, (dg_not' hc).1]; rfl) (dg_not' hc).2, hu]
theorem dec_mpd (n : Nat) (l : Bs) (h : ∀ c ∈ l, dg c = true) : decOf (45 :: pd n l) = ⟨if whole n = [] ∧ behind l = [] then 0 else -1, whole n, behind l⟩ := by
  have hu := unsigned_pd n l h
  rw [decOf_minus (r := pd n l) (by rw [List.dropWhile_cons]; rfl), hu]
theorem cmpU_part (w p q : Bs) (s t : Int) : cmpU ⟨s, w, p⟩ ⟨t, w, q⟩ = cmpL p q := by
  unfold cmpU lex
  have h1 : cmpI (w.length : Int) (w.length : Int) = 0 := good_cmpI.self _
  have h2 : cmpL w w = 0 := good_cmpL.self _
  simp only [h1, h2, if_true]
theorem number_pd (n : Nat) (d e : Bs) (hd : ∀ c ∈ d, dg c = true) (he : ∀ c ∈ e, dg c = true) : number (pd n d) (pd n e) = cmpL (behind d) (behind e) := by
  rw [number_go, dec_pd n d hd, dec_pd n e he]
  simp only
  have h1 : ∀ b : Prop, [Decidable b] → ¬ ((if b then (0 : Int) else 1) = -1) := fun b _ => by split <;> decide
  rw [if_neg (h1 _), if_neg (h1 _), cmpU_part]
theorem number_mpd (n : Nat) (d e : Bs) (hd : ∀ c ∈ d, dg c = true) (he : ∀ c ∈ e, dg c = true) : number (45 :: pd n d) (45 :: pd n e) = -cmpL (behind d) (behind e) := by
  rw [number_go, dec_mpd n d hd, dec_mpd n e he]
  simp only [cmpU_part]
  have tn := good_cmpL.tn (behind d) (behind e)
  by_cases z1 : whole n = [] ∧ behind d = []
  · rw [if_pos z1]
    by_cases z2 : whole n = [] ∧ behind e = []
    · rw [if_pos z2]
      simp [z1.2, z2.2, cmpL]
    · rw [if_neg z2]
      have hne : behind e ≠ [] := fun q => z2 ⟨z1.1, q⟩
      cases hb : behind e with
      | nil => exact absurd hb hne
      | cons y t => simp [z1.2, cmpL]
  · rw [if_neg z1]
    by_cases z2 : whole n = [] ∧ behind e = []
    · rw [if_pos z2]
      have hne : behind d ≠ [] := fun q => z1 ⟨z2.1, q⟩
      cases hb : behind d with
      | nil => exact absurd hb hne
      | cons y t => simp [z2.2, cmpL]
    · rw [if_neg z2]
      simp [tn]
/-- the digits that some bytes give -/
def ds (l : Bs) : Bs := l.map (fun c => dig c.toNat)
theorem ds_dg (l : Bs) : ∀ c ∈ ds l, dg c = true := by
  intro c hc
  obtain ⟨x, _, rfl⟩ := List.mem_map.1 hc
  exact dig_dg _
theorem ds_len (l : Bs) : (ds l).length = l.length := by simp [ds]
theorem ds_take (l : Bs) (k : Nat) (h : k < l.length) : (ds l).take (k + 1) = (ds l).take k ++ [dig l[k].toNat] := by
  rw [List.take_succ_eq_append_getElem (by rw [ds_len]; exact h)]
  simp [ds]
/-- all that KeysParted asks -/
theorem parted (n : Nat) (a b : Bs) (hab : a.length = b.length) (q : Nat) (hq : behind ((ds a).take q) = behind (ds a)) :
    number (pd n ((ds a).take q)) (pd n (ds b)) = cmpL (ds a) (ds b) ∧ number (45 :: pd n ((ds a).take q)) (45 :: pd n (ds b)) = -cmpL (ds a) (ds b) := by
  have h1 : ∀ c ∈ (ds a).take q, dg c = true := fun c hc => ds_dg a c (List.mem_of_mem_take hc)
  have h2 := cmp_behind (ds a) (ds b) (by rw [ds_len, ds_len, hab]) (ds_dg a) (ds_dg b)
  rw [number_pd n _ _ h1 (ds_dg b), number_mpd n _ _ h1 (ds_dg b), hq, h2]
  exact ⟨rfl, rfl⟩
end Go.Proofs.YtfffhdbicldihabDoor.Ky
