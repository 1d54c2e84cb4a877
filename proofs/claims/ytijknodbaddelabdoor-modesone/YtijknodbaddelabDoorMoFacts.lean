/- What changes do, bit by bit. -/
import Derived.Test.YtijknodbaddelabDoorMoParseP
namespace Go.Proofs.YtijknodbaddelabDoor.Mo
open Go.RowKit

theorem bit511 (i : Nat) (hi : i < 9) : Nat.testBit 511 i = true := by
  have h : ∀ i : Nat, i < 9 → Nat.testBit 511 i = true := by decide
  exact h i hi
theorem bit7b (q : Nat) (hq : q < 3) : Nat.testBit 7 q = true := by
  match q, hq with
  | 0, _ => decide
  | 1, _ => decide
  | 2, _ => decide
theorem wb7b (p : Nat) (hp : p < 3) : wb 7 p = true := by
  match p, hp with
  | 0, _ => decide
  | 1, _ => decide
  | 2, _ => decide
/-- whether a change may touch the i-th bit -/
def tch (who mask : Int) (i : Nat) : Bool := if who % 8 = 0 then !(m9 mask).testBit i else wb who (i / 3)
theorem reach_bitb (who mask : Int) (i : Nat) (hi : i < 9) : (reachP who mask).testBit i = tch who mask i := by
  unfold reachP tch
  split
  · rw [clr_bit, bit511 i hi]; simp
  · rw [spreadP_bit _ _ _ (by decide) hi, bit7b _ (by omega)]; simp
/-- what an Op does to one bit: m it is now, b it is told, t it may be touched -/
def ob (op : UInt8) (m b t : Bool) : Bool := if op = 43 then m || (b && t) else if op = 45 then m && !(b && t) else if op = 61 then (m && !t) || (b && t) else m
theorem chg_bit (c : Ch) (m : Nat) (mask : Int) (dir : Bool) (i : Nat) (hi : i < 9) : (chgP c m mask dir).testBit i = ob c.op (m.testBit i) ((bitsP c m dir).testBit (i % 3)) (tch c.who mask i) := by
  have hr := reach_bitb c.who mask i hi
  have hS : (spreadP 7 (bitsP c m dir)).testBit i = (bitsP c m dir).testBit (i % 3) := by
    rw [spreadP_bit _ _ _ (bitsP_lt _ _ _) hi, wb7b _ (by omega)]; simp
  unfold chgP doP ob
  split
  · rw [Nat.testBit_or, Nat.testBit_and, hr, hS]
  · split
    · rw [clr_bit, Nat.testBit_and, hr, hS]
    · split
      · rw [Nat.testBit_or, clr_bit, Nat.testBit_and, hr, hS]
      · rfl
theorem anyX_iff (m : Nat) (hm : m < 512) : anyX m = true ↔ ∃ p, p < 3 ∧ m.testBit (3 * p) = true := by
  have h : ∀ m : Nat, m < 512 → anyX m = (m.testBit 0 || m.testBit 3 || m.testBit 6) := by decide +kernel
  rw [h m hm]
  constructor
  · intro h
    simp only [Bool.or_eq_true] at h
    rcases h with (h | h) | h
    · exact ⟨0, by decide, h⟩
    · exact ⟨1, by decide, h⟩
    · exact ⟨2, by decide, h⟩
  · rintro ⟨p, hp, h⟩
    simp only [Bool.or_eq_true]
    match p, hp with
    | 0, _ => exact .inl (.inl h)
    | 1, _ => exact .inl (.inr h)
    | 2, _ => exact .inr h
/-- the bits that a change which copies nothing tells in any case -/
def base (c : Ch) : Nat := (c.bits % 8).toNat
theorem bits_nocopy (c : Ch) (m : Nat) (dir : Bool) (hc : c.cp ≠ 117 ∧ c.cp ≠ 103 ∧ c.cp ≠ 111) : bitsP c m dir = (base c ||| (if c.dirs && (dir || anyX m) then 1 else 0)) := by
  unfold bitsP base
  have : partP m c.cp = 0 := by unfold partP; rw [if_neg hc.1, if_neg hc.2.1, if_neg hc.2.2]
  rw [this]; simp
theorem bits_nocopy_bit (c : Ch) (m : Nat) (dir : Bool) (hc : c.cp ≠ 117 ∧ c.cp ≠ 103 ∧ c.cp ≠ 111) (q : Nat) (hq : q < 3) : (bitsP c m dir).testBit q = ((base c).testBit q || (decide (q = 0) && (c.dirs && (dir || anyX m)))) := by
  rw [bits_nocopy c m dir hc, Nat.testBit_or]
  congr 1
  split
  · rename_i h
    rw [h]
    match q, hq with
    | 0, _ => rfl
    | 1, _ => rfl
    | 2, _ => rfl
  · rename_i h
    have : (c.dirs && (dir || anyX m)) = false := by simpa using h
    rw [this]; simp
theorem ob_again (op : UInt8) (m b t : Bool) : ob op (ob op m b t) b t = ob op m b t := by
  unfold ob
  by_cases h1 : op = 43
  · simp only [if_pos h1]; cases m <;> cases b <;> cases t <;> rfl
  · simp only [if_neg h1]
    by_cases h2 : op = 45
    · simp only [if_pos h2]; cases m <;> cases b <;> cases t <;> rfl
    · simp only [if_neg h2]
      by_cases h3 : op = 61
      · simp only [if_pos h3]; cases m <;> cases b <;> cases t <;> rfl
      · simp only [if_neg h3]
theorem ob_minus {op : UInt8} {m b b2 t : Bool} (h : op = 45) (hb : b2 = true → b = true) : ob op (ob op m b t) b2 t = ob op m b t := by
  unfold ob
  subst h
  cases m <;> cases b <;> cases t <;> cases b2 <;> simp_all
/-- a change that copies nothing, done again, makes no difference -/
theorem chg_again (c : Ch) (m : Nat) (mask : Int) (dir : Bool) (hm : m < 512) (hc : c.cp ≠ 117 ∧ c.cp ≠ 103 ∧ c.cp ≠ 111) : chgP c (chgP c m mask dir) mask dir = chgP c m mask dir := by
  have hm1 := chgP_lt c m mask dir hm
  refine mode_ext (chgP_lt _ _ _ _ hm1) hm1 fun i hi => ?_
  rw [chg_bit c (chgP c m mask dir) mask dir i hi]
  have hb := chg_bit c m mask dir i hi
  -- the bits are the same both times, or it does not matter
  have key : (bitsP c (chgP c m mask dir) dir).testBit (i % 3) = (bitsP c m dir).testBit (i % 3) ∨ (c.op = 45 ∧ ((bitsP c (chgP c m mask dir) dir).testBit (i % 3) = true → (bitsP c m dir).testBit (i % 3) = true)) ∨ (c.op ≠ 43 ∧ c.op ≠ 45 ∧ c.op ≠ 61) := by
    by_cases h43 : c.op = 43 ∨ c.op = 45 ∨ c.op = 61
    · rw [bits_nocopy_bit c _ dir hc _ (by omega), bits_nocopy_bit c m dir hc _ (by omega)]
      by_cases hq : i % 3 = 0
      · have hq' : decide (i % 3 = 0) = true := by simpa using hq
        rw [hq', Bool.true_and, Bool.true_and]
        cases hdirs : c.dirs
        · exact .inl rfl
        · cases hdir : dir
          · rw [hdir] at hb
            simp only [Bool.true_and, Bool.false_or]
            have hx := anyX_iff m hm
            have hx1 := anyX_iff (chgP c m mask false) (chgP_lt c m mask false hm)
            have hbit : ∀ p, p < 3 → (chgP c m mask false).testBit (3 * p) = ob c.op (m.testBit (3 * p)) ((base c).testBit 0 || anyX m) (tch c.who mask (3 * p)) := by
              intro p hp
              rw [chg_bit c m mask false (3 * p) (by omega), show 3 * p % 3 = 0 by omega, bits_nocopy_bit c m false hc 0 (by decide), hdirs]
              simp
            rw [hq]
            cases hb0 : (base c).testBit 0
            · rw [hb0] at hbit
              simp only [Bool.false_or] at hbit ⊢
              rcases h43 with h | h | h
              · left
                cases ha : anyX m
                · have : anyX (chgP c m mask false) = false := by
                    cases hh : anyX (chgP c m mask false)
                    · rfl
                    · obtain ⟨p, hp, h2⟩ := hx1.1 hh
                      rw [hbit p hp, ha] at h2
                      unfold ob at h2
                      rw [if_pos h] at h2
                      simp at h2
                      rw [hx.2 ⟨p, hp, h2⟩] at ha; cases ha
                  rw [this]
                · obtain ⟨p, hp, h2⟩ := hx.1 ha
                  refine hx1.2 ⟨p, hp, ?_⟩
                  rw [hbit p hp]
                  unfold ob
                  rw [if_pos h, h2]; rfl
              · right; left
                refine ⟨h, fun hh => ?_⟩
                obtain ⟨p, hp, h2⟩ := hx1.1 hh
                rw [hbit p hp] at h2
                unfold ob at h2
                rw [if_neg (by rw [h]; decide), if_pos h] at h2
                simp at h2
                exact hx.2 ⟨p, hp, h2.1⟩
              · left
                cases ha : anyX m
                · have : anyX (chgP c m mask false) = false := by
                    cases hh : anyX (chgP c m mask false)
                    · rfl
                    · obtain ⟨p, hp, h2⟩ := hx1.1 hh
                      rw [hbit p hp, ha] at h2
                      unfold ob at h2
                      rw [if_neg (by rw [h]; decide), if_neg (by rw [h]; decide), if_pos h] at h2
                      simp at h2
                      rw [hx.2 ⟨p, hp, h2.1⟩] at ha; cases ha
                  rw [this]
                · obtain ⟨p, hp, h2⟩ := hx.1 ha
                  refine hx1.2 ⟨p, hp, ?_⟩
                  rw [hbit p hp, ha]
                  unfold ob
                  rw [if_neg (by rw [h]; decide), if_neg (by rw [h]; decide), if_pos h, h2]
                  cases tch c.who mask (3 * p) <;> rfl
            · left; rfl
          · exact .inl rfl
      · have hq' : decide (i % 3 = 0) = false := by simpa using hq
        rw [hq']
        exact .inl rfl
    · exact .inr (.inr ⟨fun h => h43 (.inl h), fun h => h43 (.inr (.inl h)), fun h => h43 (.inr (.inr h))⟩)
  rcases key with h | ⟨h, hh⟩ | ⟨h1, h2, h3⟩
  · rw [h, hb]; exact ob_again _ _ _ _
  · rw [hb]; exact ob_minus h hh
  · unfold ob; rw [if_neg h1, if_neg h2, if_neg h3]
def dup (l : List Ch) : List Ch := l.flatMap fun c => [c, c]
theorem apply_dup (l : List Ch) (h : ∀ c ∈ l, c.cp ≠ 117 ∧ c.cp ≠ 103 ∧ c.cp ≠ 111) (m : Nat) (mask : Int) (dir : Bool) (hm : m < 512) : applyP (dup l) m mask dir = applyP l m mask dir := by
  induction l generalizing m with
  | nil => rfl
  | cons c l ih =>
    have e : dup (c :: l) = c :: c :: dup l := by simp [dup]
    rw [e, applyP, applyP, applyP, chg_again c m mask dir hm (h c (by simp))]
    exact ih (fun d hd => h d (by simp [hd])) _ (chgP_lt c m mask dir hm)

/-! ### octal texts -/
theorem oct_bits (a : Nat) (ha : a < 8) (who : Int) (m : Nat) (dir : Bool) : bitsP ⟨who, 61, (a : Int), 0, false⟩ m dir = a := by
  unfold bitsP
  have : partP m (0 : UInt8) = 0 := by unfold partP; rw [if_neg (by decide), if_neg (by decide), if_neg (by decide)]
  simp only [this, Nat.or_zero, Bool.false_and]
  simp
  omega
theorem oct_bit (who : Int) (a m : Nat) (ha : a < 8) (hw : who % 8 ≠ 0) (mask : Int) (dir : Bool) (i : Nat) (hi : i < 9) : (chgP ⟨who, 61, (a : Int), 0, false⟩ m mask dir).testBit i = if wb who (i / 3) then a.testBit (i % 3) else m.testBit i := by
  rw [chg_bit _ _ _ _ i hi, oct_bits a ha]
  unfold ob tch
  simp only
  rw [if_neg (by decide), if_neg (by decide), if_pos trivial, if_neg hw]
  cases wb who (i / 3) <;> simp
theorem part_natb (m : Nat) : partP m 117 = m / 64 % 8 ∧ partP m 103 = m / 8 % 8 ∧ partP m 111 = m % 8 := by
  refine ⟨?_, ?_, ?_⟩ <;> simp [partP] <;> omega
theorem part_bits : ∀ m : Nat, m < 512 → ∀ i : Nat, i < 9 → m.testBit i = (if i / 3 = 2 then m / 64 % 8 else if i / 3 = 1 then m / 8 % 8 else m % 8).testBit (i % 3) := by decide +kernel
theorem oct_apply (m x : Nat) (hm : m < 512) (hx : x < 512) (mask : Int) (dir : Bool) : applyP (octL m) x mask dir = m := by
  obtain ⟨e0, e1, e2⟩ := part_natb m
  unfold octL
  rw [e0, e1, e2]
  simp only [applyP]
  have l1 := chgP_lt ⟨4, 61, ((m / 64 % 8 : Nat) : Int), 0, false⟩ x mask dir hx
  have l2 := chgP_lt ⟨2, 61, ((m / 8 % 8 : Nat) : Int), 0, false⟩ _ mask dir l1
  have l3 := chgP_lt ⟨1, 61, ((m % 8 : Nat) : Int), 0, false⟩ _ mask dir l2
  refine mode_ext l3 hm fun i hi => ?_
  rw [oct_bit _ _ _ (by omega) (by decide) _ _ _ hi, oct_bit _ _ _ (by omega) (by decide) _ _ _ hi, oct_bit _ _ _ (by omega) (by decide) _ _ _ hi, part_bits m hm i hi]
  have w4 : wb 4 2 = true ∧ wb 4 1 = false ∧ wb 4 0 = false ∧ wb 2 2 = false ∧ wb 2 1 = true ∧ wb 2 0 = false ∧ wb 1 2 = false ∧ wb 1 1 = false ∧ wb 1 0 = true := by decide
  obtain ⟨q1, _, _, q4, q5, _, q7, q8, q9⟩ := w4
  have : i / 3 = 0 ∨ i / 3 = 1 ∨ i / 3 = 2 := by omega
  rcases this with h | h | h
  · simp [h, q9]
  · simp [h, q5, q8]
  · simp [h, q1, q4, q7]
end Go.Proofs.YtijknodbaddelabDoor.Mo
