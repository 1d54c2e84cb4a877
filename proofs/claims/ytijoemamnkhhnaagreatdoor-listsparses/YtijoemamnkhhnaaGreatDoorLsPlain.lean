/- Lists of places, in plain words over lists of bytes: no program is named here. -/
import Derived.WalkKit
import Derived.Lib.ItoaNum
namespace Go.Proofs.YtijoemamnkhhnaaGreatDoor.Ls

def dig (c : UInt8) : Bool := decide (48 ≤ c.toNat) && decide (c.toNat ≤ 57)
def nval (l : List UInt8) : Nat := l.foldl (fun v c => v * 10 + (c.toNat - 48)) 0
/-- the place whose digits these are; 0: none's -/
def place (s : List UInt8) : Nat := if (s.headD 48).toNat ≠ 48 ∧ s.all dig = true ∧ nval s ≤ 2147483647 then nval s else 0

theorem nval_snoc (l : List UInt8) (c : UInt8) : nval (l ++ [c]) = nval l * 10 + (c.toNat - 48) := by simp [nval]
theorem fold_from (l : List UInt8) (v : Nat) : l.foldl (fun v c => v * 10 + (c.toNat - 48)) v = v * 10 ^ l.length + nval l := by
  induction l generalizing v with
  | nil => simp [nval]
  | cons c l ih =>
    have h1 := ih (v * 10 + (c.toNat - 48))
    have h2 := ih (0 * 10 + (c.toNat - 48))
    simp only [nval, List.foldl_cons, List.length_cons] at *
    rw [h1, h2, Nat.pow_succ, Nat.add_mul]
    simp only [Nat.zero_mul, Nat.zero_add]
    rw [Nat.mul_assoc, Nat.mul_comm 10 (10 ^ l.length), Nat.add_assoc]
theorem nval_append (a b : List UInt8) : nval (a ++ b) = nval a * 10 ^ b.length + nval b := by
  unfold nval
  rw [List.foldl_append, fold_from]
  rfl
theorem nval_cons (c : UInt8) (l : List UInt8) : nval (c :: l) = (c.toNat - 48) * 10 ^ l.length + nval l := by
  have := nval_append [c] l
  simpa [nval] using this
theorem nval_lt (l : List UInt8) (h : l.all dig = true) : nval l < 10 ^ l.length := by
  induction l with
  | nil => simp [nval]
  | cons c l ih =>
    simp only [List.all_cons, Bool.and_eq_true] at h
    have hc := h.1
    simp [dig] at hc
    have := ih h.2
    have h9 : (c.toNat - 48) * 10 ^ l.length ≤ 9 * 10 ^ l.length := Nat.mul_le_mul_right _ (by omega)
    rw [nval_cons, List.length_cons, Nat.pow_succ]
    omega
theorem nval_ge (c : UInt8) (l : List UInt8) (hc : dig c = true) (h0 : c.toNat ≠ 48) : 10 ^ l.length ≤ nval (c :: l) := by
  simp [dig] at hc
  rw [nval_cons]
  have : 1 * 10 ^ l.length ≤ (c.toNat - 48) * 10 ^ l.length := Nat.mul_le_mul_right _ (by omega)
  omega
theorem nval_take_le (s : List UInt8) (k : Nat) : nval (s.take k) ≤ nval s := by
  have e := nval_append (s.take k) (s.drop k)
  rw [List.take_append_drop] at e
  have : nval (s.take k) * 1 ≤ nval (s.take k) * 10 ^ (s.drop k).length := Nat.mul_le_mul_left _ (Nat.one_le_pow _ _ (by omega))
  omega

theorem place_le (s : List UInt8) : place s ≤ 2147483647 := by
  unfold place; split
  · rename_i h; exact h.2.2
  · omega
/-- a place: its text has a first byte that is a digit and no nought, digits behind it -/
theorem place_pos {s : List UInt8} (h : place s ≠ 0) : ∃ c l, s = c :: l ∧ c.toNat ≠ 48 ∧ s.all dig = true ∧ place s = nval s ∧ s.length ≤ 10 ∧ Lib.nDigits (place s) = s.length := by
  unfold place at h ⊢
  split at h
  · rename_i hc
    rw [if_pos hc]
    obtain ⟨h1, h2, h3⟩ := hc
    cases s with
    | nil => simp at h1
    | cons c l =>
      have h2' := h2
      simp only [List.all_cons, Bool.and_eq_true] at h2'
      have hge := nval_ge c l h2'.1 h1
      have hlt := nval_lt (c :: l) h2
      have hlen : l.length ≤ 9 := by
        by_cases hl : l.length ≤ 9
        · exact hl
        · exfalso
          have : 10 ^ 10 ≤ 10 ^ l.length := Nat.pow_le_pow_right (by omega) (by omega)
          omega
      refine ⟨c, l, rfl, h1, h2, rfl, by simp; omega, ?_⟩
      rw [List.length_cons] at hlt
      rw [Lib.nDigits_unique l.length _ hge hlt, List.length_cons]
  · exact absurd rfl h
theorem place_of {c : UInt8} {l : List UInt8} (h0 : c.toNat ≠ 48) (h : (c :: l).all dig = true) (hm : nval (c :: l) ≤ 2147483647) : place (c :: l) = nval (c :: l) ∧ place (c :: l) ≠ 0 := by
  have e : place (c :: l) = nval (c :: l) := by unfold place; rw [if_pos ⟨h0, h, hm⟩]
  simp only [List.all_cons, Bool.and_eq_true] at h
  have := nval_ge c l h.1 h0
  have : 1 ≤ 10 ^ l.length := Nat.one_le_pow _ _ (by omega)
  exact ⟨e, by omega⟩
theorem place_no {s : List UInt8} (h : (s.headD 48).toNat = 48 ∨ s.all dig = false ∨ 2147483647 < nval s) : place s = 0 := by
  unfold place
  rw [if_neg]
  rintro ⟨h1, h2, h3⟩
  rcases h with h | h | h
  · exact h1 h
  · rw [h2] at h; cases h
  · omega
theorem place_no_len {s : List UInt8} (h : 10 < s.length) : place s = 0 := by
  by_cases e : place s = 0
  · exact e
  · obtain ⟨_, _, _, _, _, _, h5, _⟩ := place_pos e; omega
theorem place_no_byte {s : List UInt8} {c : UInt8} (hc : c ∈ s) (h : dig c = false) : place s = 0 :=
  place_no (.inr (.inl (List.all_eq_false.2 ⟨c, hc, by simp [h]⟩)))
theorem place_nil : place [] = 0 := rfl

/-- cut at the first - -/
def cutD : List UInt8 → Option (List UInt8 × List UInt8)
  | [] => none
  | c :: t => if c = 45 then some ([], t) else (cutD t).map fun q => (c :: q.1, q.2)
theorem cutD_none : ∀ {s : List UInt8}, (∀ c ∈ s, c ≠ 45) → cutD s = none
  | [], _ => rfl
  | c :: t, h => by
    rw [cutD, if_neg (h c (by simp)), cutD_none (fun d hd => h d (by simp [hd]))]; rfl
theorem cutD_hit : ∀ {a : List UInt8} (b : List UInt8), (∀ c ∈ a, c ≠ 45) → cutD (a ++ 45 :: b) = some (a, b)
  | [], b, _ => by simp [cutD]
  | c :: t, b, h => by
    rw [List.cons_append, cutD, if_neg (h c (by simp)), cutD_hit b (fun d hd => h d (by simp [hd]))]; rfl
theorem cutD_cases (s : List UInt8) : (cutD s = none ∧ ∀ c ∈ s, c ≠ 45) ∨ ∃ a b, cutD s = some (a, b) ∧ s = a ++ 45 :: b ∧ ∀ c ∈ a, c ≠ 45 := by
  induction s with
  | nil => exact .inl ⟨rfl, by simp⟩
  | cons c t ih =>
    by_cases hc : c = 45
    · exact .inr ⟨[], t, by rw [cutD, if_pos hc], by simp [hc], by simp⟩
    · rcases ih with ⟨h1, h2⟩ | ⟨a, b, h1, h2, h3⟩
      · exact .inl ⟨by rw [cutD, if_neg hc, h1]; rfl, by intro d hd; rcases List.mem_cons.1 hd with rfl | hd; exact hc; exact h2 d hd⟩
      · exact .inr ⟨c :: a, b, by rw [cutD, if_neg hc, h1]; rfl, by simp [h2], by intro d hd; rcases List.mem_cons.1 hd with rfl | hd; exact hc; exact h3 d hd⟩

abbrev R := Int × Int
/-- an item's range -/
def item (s : List UInt8) : Option R :=
  match cutD s with
  | none => if place s = 0 then none else some (place s, place s)
  | some ([], b) => if place b = 0 then none else some (1, place b)
  | some (a, []) => if place a = 0 then none else some (place a, 0)
  | some (a, b) => if place a = 0 ∨ place b < place a then none else some (place a, place b)

theorem dig_ne {c : UInt8} (h : dig c = true) : c ≠ 45 ∧ c ≠ 44 := by
  simp [dig] at h
  constructor <;> (rintro rfl; simp at h)

/-- parts between commas -/
def splitC : List UInt8 → List (List UInt8)
  | [] => [[]]
  | c :: t => if c = 44 then [] :: splitC t else
      match splitC t with
      | [] => [[c]]
      | x :: r => (c :: x) :: r
theorem splitC_ne (s : List UInt8) : splitC s ≠ [] := by
  cases s with
  | nil => simp [splitC]
  | cons c t => rw [splitC]; split; simp; split <;> simp
theorem splitC_end : ∀ {s : List UInt8}, (∀ c ∈ s, c ≠ 44) → splitC s = [s]
  | [], _ => rfl
  | c :: t, h => by rw [splitC, if_neg (h c (by simp)), splitC_end (fun d hd => h d (by simp [hd]))]
theorem splitC_hit : ∀ {a : List UInt8} (b : List UInt8), (∀ c ∈ a, c ≠ 44) → splitC (a ++ 44 :: b) = a :: splitC b
  | [], b, _ => by simp [splitC]
  | c :: t, b, h => by rw [List.cons_append, splitC, if_neg (h c (by simp)), splitC_hit b (fun d hd => h d (by simp [hd]))]
theorem splitC_two (b : List UInt8) : ∀ (a : List UInt8), splitC (a ++ 44 :: b) = splitC a ++ splitC b
  | [] => by simp [splitC]
  | c :: t => by
    rw [List.cons_append, splitC, splitC, splitC_two b t]
    split
    · rfl
    · cases h : splitC t with
      | nil => exact absurd h (splitC_ne t)
      | cons x r => rfl
theorem splitC_len : ∀ (s : List UInt8), ((splitC s).map (fun x => x.length + 1)).sum = s.length + 1
  | [] => rfl
  | c :: t => by
    have ih := splitC_len t
    rw [splitC]
    split
    · simp at ih ⊢; omega
    · cases h : splitC t with
      | nil => exact absurd h (splitC_ne t)
      | cons x r => rw [h] at ih; simp at ih ⊢; omega

def items : List (List UInt8) → Option (List R)
  | [] => some []
  | x :: r => match item x with
    | none => none
    | some a => (items r).map (a :: ·)
theorem items_append (a b : List (List UInt8)) : items (a ++ b) = match items a with
    | none => none
    | some l => (items b).map (l ++ ·) := by
  induction a with
  | nil => simp [items]
  | cons x r ih =>
    rw [List.cons_append, items, items, ih]
    cases item x with
    | none => rfl
    | some y =>
      cases items r with
      | none => rfl
      | some l => cases items b <;> rfl
def parse (s : List UInt8) : Option (List R) := items (splitC s)
theorem parse_two (a b : List UInt8) : parse (a ++ 44 :: b) = match parse a with
    | none => none
    | some l => (parse b).map (l ++ ·) := by
  unfold parse; rw [splitC_two, items_append]

/-- what Parse answers: the ranges, and the error's number -/
def parseL (s : List UInt8) : List R := if 4096 < s.length then [] else (parse s).getD []
def parseE (s : List UInt8) : Int := if 4096 < s.length then 3 else if parse s = none then 5 else 0

/-- is a place in a list -/
def inR (n : Int) (r : R) : Bool := decide (r.1 ≤ n) && (decide (r.2 = 0) || decide (n ≤ r.2))
def has (l : List R) (n : Int) : Bool := l.any (inR n)

/-- may a list be told -/
def isPl (n : Int) : Bool := decide (1 ≤ n) && decide (n ≤ 2147483647)
def okR (r : R) : Bool := isPl r.1 && (decide (r.2 = 0) || (isPl r.2 && decide (r.1 ≤ r.2)))
def may (l : List R) : Bool := l.all okR && !l.isEmpty

def dec (n : Int) : List UInt8 := Lib.itoa n
def tell1 (r : R) : List UInt8 := if r.2 = r.1 then dec r.1 else if r.2 = 0 then dec r.1 ++ [45] else dec r.1 ++ 45 :: dec r.2
def tell : List R → List UInt8
  | [] => []
  | [r] => tell1 r
  | r :: q :: l => tell1 r ++ 44 :: tell (q :: l)
theorem tell_one (r : R) : tell [r] = tell1 r := by simp [tell]
theorem tell_cons (r q : R) (l : List R) : tell (r :: q :: l) = tell1 r ++ 44 :: tell (q :: l) := by simp [tell]
theorem tell_snoc (l : List R) (r : R) (h : l ≠ []) : tell (l ++ [r]) = tell l ++ 44 :: tell1 r := by
  induction l with
  | nil => exact absurd rfl h
  | cons q l ih =>
    cases l with
    | nil => rw [List.singleton_append, tell_cons, tell_one, tell_one]
    | cons p l => rw [List.cons_append, List.cons_append, tell_cons, tell_cons, ← List.cons_append, ih (by simp), List.append_assoc, List.cons_append]
theorem tell_take_le (l : List R) (k : Nat) : (tell (l.take k)).length ≤ (tell l).length := by
  induction l generalizing k with
  | nil => simp
  | cons r l ih =>
    cases k with
    | zero => simp [tell]
    | succ k =>
      rw [List.take_succ_cons]
      cases l with
      | nil => simp
      | cons q l =>
        have := ih k
        cases k with
        | zero => simp [tell]
        | succ k => rw [List.take_succ_cons] at this ⊢; rw [tell_cons, tell_cons]; simp at this ⊢; omega

/-- what Text answers -/
def textE (l : List R) : Int := if may l then (if 4096 < (tell l).length then 3 else 0) else 1
def textL (l : List R) : List UInt8 := if may l ∧ (tell l).length ≤ 4096 then tell l else []

/-! ### a number's digits -/
theorem dg_dig (u j : Nat) : dig (Lib.dg u j) = true := by
  unfold Lib.dg dig
  have h : u / 10 ^ j % 10 < 10 := Nat.mod_lt _ (by omega)
  have e : (UInt8.ofNat (48 + u / 10 ^ j % 10)).toNat = 48 + u / 10 ^ j % 10 := by simp; omega
  rw [e]; simp; omega
theorem ofNat_d (d : Nat) (h : d < 10) : (UInt8.ofNat (48 + d)).toNat = 48 + d := by simp; omega
theorem dec_small (u : Nat) (h : u < 10) : Lib.decDigits u = [UInt8.ofNat (48 + u)] := by rw [Lib.decDigits, dif_pos h]
theorem dec_big (u : Nat) (h : ¬ u < 10) : Lib.decDigits u = Lib.decDigits (u / 10) ++ [UInt8.ofNat (48 + u % 10)] := by rw [Lib.decDigits, dif_neg h]
theorem decDigits_all (u : Nat) : (Lib.decDigits u).all dig = true := by
  rw [Lib.decDigits_eq, List.all_eq_true]
  intro c hc
  obtain ⟨t, _, rfl⟩ := List.mem_map.1 hc
  exact dg_dig _ _
theorem nval_dec (u : Nat) : nval (Lib.decDigits u) = u := by
  induction u using Nat.strongRecOn with
  | _ u ih =>
    by_cases h : u < 10
    · rw [dec_small u h]; simp only [nval, List.foldl_cons, List.foldl_nil, ofNat_d u h]; omega
    · rw [dec_big u h, nval_snoc, ih (u / 10) (by omega), ofNat_d _ (Nat.mod_lt _ (by omega))]; omega
theorem dec_head (u : Nat) (h : 1 ≤ u) : ∃ c l, Lib.decDigits u = c :: l ∧ c.toNat ≠ 48 := by
  induction u using Nat.strongRecOn with
  | _ u ih =>
    by_cases h9 : u < 10
    · exact ⟨_, [], dec_small u h9, by rw [ofNat_d u h9]; omega⟩
    · obtain ⟨c, l, e, hc⟩ := ih (u / 10) (by omega) (by omega)
      exact ⟨c, l ++ [UInt8.ofNat (48 + u % 10)], by rw [dec_big u h9, e]; rfl, hc⟩
theorem place_dec (u : Nat) (h : 1 ≤ u) (hm : u ≤ 2147483647) : place (Lib.decDigits u) = u := by
  obtain ⟨c, l, e, hc⟩ := dec_head u h
  have h1 := decDigits_all u
  have h2 := nval_dec u
  rw [e] at h1 h2 ⊢
  rw [(place_of hc h1 (by omega)).1, h2]
theorem place_dec_no (u : Nat) (h : u = 0 ∨ 2147483647 < u) : place (Lib.decDigits u) = 0 := by
  rcases h with rfl | h
  · rw [dec_small 0 (by omega)]; rfl
  · exact place_no (.inr (.inr (by rw [nval_dec]; exact h)))
theorem dec_nat (n : Int) (h : 0 ≤ n) : dec n = Lib.decDigits n.toNat := by unfold dec Lib.itoa; rw [if_neg (by omega)]
theorem dec_clean (n : Int) (h : 0 ≤ n) : ∀ c ∈ dec n, c ≠ 45 ∧ c ≠ 44 := by
  rw [dec_nat n h]
  intro c hc
  exact dig_ne (List.all_eq_true.1 (decDigits_all _) c hc)
theorem dec_ne (n : Int) (h : 0 ≤ n) : dec n ≠ [] := by
  rw [dec_nat n h]
  intro e
  have := Lib.decDigits_length n.toNat
  have := Lib.nDigits_pos n.toNat
  rw [e] at *
  simp at *
  omega
theorem place_decI (n : Int) (h : isPl n = true) : (place (dec n) : Int) = n := by
  simp [isPl] at h
  rw [dec_nat n (by omega), place_dec _ (by omega) (by omega)]
  omega

/-! ### forms of items -/
theorem item_one {s : List UInt8} (h : ∀ c ∈ s, c ≠ 45) : item s = if place s = 0 then none else some ((place s : Int), (place s : Int)) := by
  unfold item; rw [cutD_none h]
theorem item_to {b : List UInt8} : item (45 :: b) = if place b = 0 then none else some ((1 : Int), (place b : Int)) := by
  unfold item; rw [show cutD (45 :: b) = some ([], b) from cutD_hit (a := []) b (by simp)]
theorem item_from {a : List UInt8} (h : ∀ c ∈ a, c ≠ 45) (ha : a ≠ []) : item (a ++ [45]) = if place a = 0 then none else some ((place a : Int), (0 : Int)) := by
  unfold item; rw [cutD_hit [] h]
  cases a with
  | nil => exact absurd rfl ha
  | cons c l => rfl
theorem item_both {a b : List UInt8} (h : ∀ c ∈ a, c ≠ 45) (ha : a ≠ []) (hb : b ≠ []) : item (a ++ 45 :: b) = if place a = 0 ∨ place b < place a then none else some ((place a : Int), (place b : Int)) := by
  unfold item; rw [cutD_hit b h]
  cases a with
  | nil => exact absurd rfl ha
  | cons c l =>
    cases b with
    | nil => exact absurd rfl hb
    | cons d m => rfl

/-! ### a list that was told is read as it was -/
theorem tell1_clean (r : R) (h : okR r = true) : ∀ c ∈ tell1 r, c ≠ 44 := by
  simp [okR, isPl] at h
  have h1 := dec_clean r.1 (by omega)
  unfold tell1
  split
  · exact fun c hc => (h1 c hc).2
  · split
    · intro c hc
      rcases List.mem_append.1 hc with hc | hc
      · exact (h1 c hc).2
      · simp at hc; subst hc; decide
    · have h2 := dec_clean r.2 (by omega)
      intro c hc
      rcases List.mem_append.1 hc with hc | hc
      · exact (h1 c hc).2
      · rcases List.mem_cons.1 hc with rfl | hc
        · decide
        · exact (h2 c hc).2
theorem item_tell1 (r : R) (h : okR r = true) : item (tell1 r) = some r := by
  have h' := h
  simp [okR] at h'
  have hp := h'.1
  have hpl := hp
  simp [isPl] at hp
  have h1 := dec_clean r.1 (by omega)
  have e1 := place_decI r.1 hpl
  unfold tell1
  split
  · rename_i e
    rw [item_one (fun c hc => (h1 c hc).1), if_neg (by omega)]
    cases r; simp at *; omega
  · rename_i ne
    split
    · rename_i e
      rw [item_from (fun c hc => (h1 c hc).1) (dec_ne _ (by omega)), if_neg (by omega)]
      cases r; simp at *; omega
    · rename_i n0
      have hq : isPl r.2 = true ∧ r.1 ≤ r.2 := by rcases h'.2 with h | h; exact absurd h n0; exact h
      have e2 := place_decI r.2 hq.1
      rw [item_both (fun c hc => (h1 c hc).1) (dec_ne _ (by omega)) (dec_ne _ (by omega)), if_neg (by omega)]
      cases r; simp at *; omega
theorem parse_tell : ∀ (l : List R), l ≠ [] → l.all okR = true → parse (tell l) = some l
  | [], h, _ => absurd rfl h
  | [r], _, h => by
    simp at h
    unfold parse
    rw [tell_one, splitC_end (tell1_clean r h), items, item_tell1 r h]; rfl
  | r :: q :: l, _, h => by
    simp only [List.all_cons, Bool.and_eq_true] at h
    have ih := parse_tell (q :: l) (by simp) (by simp [h.2])
    unfold parse at ih ⊢
    rw [tell_cons, splitC_hit _ (tell1_clean r h.1), items, item_tell1 r h.1, ih]; rfl

/-! ### what was read may be told, and is not much longer -/
theorem item_ok {s : List UInt8} {r : R} (h : item s = some r) : okR r = true ∧ (tell1 r).length ≤ s.length + 1 := by
  have dl : ∀ x : List UInt8, place x ≠ 0 → (dec (place x : Int)).length = x.length := fun x hx => by
    obtain ⟨_, _, _, _, _, _, _, h6⟩ := place_pos hx
    rw [dec_nat _ (by omega), Lib.decDigits_length]
    exact h6
  have pl : ∀ x : List UInt8, place x ≠ 0 → isPl (place x : Int) = true := fun x hx => by
    have := place_le x; simp [isPl]; omega
  rcases cutD_cases s with ⟨_, h2⟩ | ⟨a, b, _, rfl, h3⟩
  · rw [item_one h2] at h
    split at h
    · cases h
    · rename_i hp
      cases h
      refine ⟨by simp [okR, pl s hp], ?_⟩
      simp only [tell1, if_true, dl s hp]
      omega
  · by_cases ha : a = []
    · subst ha
      rw [List.nil_append, item_to] at h
      split at h
      · cases h
      · rename_i hp
        cases h
        have := pl b hp
        refine ⟨by simp [okR, this]; simp [isPl] at this ⊢; omega, ?_⟩
        have e1 : (dec 1).length = 1 := by decide +kernel
        simp only [tell1]
        split
        · rw [e1]; simp
        · rw [if_neg (by omega), List.length_append, List.length_cons, dl b hp, e1]; simp; omega
    · by_cases hb : b = []
      · subst hb
        rw [item_from h3 ha] at h
        split at h
        · cases h
        · rename_i hp
          cases h
          refine ⟨by simp [okR, pl a hp], ?_⟩
          simp only [tell1]
          rw [if_neg (by omega), if_pos trivial, List.length_append, dl a hp]
          simp
      · rw [item_both h3 ha hb] at h
        split at h
        · cases h
        · rename_i hp
          cases h
          refine ⟨by simp [okR, pl a (by omega), pl b (by omega)]; omega, ?_⟩
          simp only [tell1]
          split
          · rw [dl a (by omega)]; simp; omega
          · rw [if_neg (by omega), List.length_append, List.length_cons, dl b (by omega), dl a (by omega)]; simp
theorem items_ok : ∀ {xs : List (List UInt8)} {l : List R}, items xs = some l → l.all okR = true ∧ l.length = xs.length ∧ (l ≠ [] → (tell l).length + 1 ≤ (xs.map (fun x => x.length + 1)).sum + l.length)
  | [], l, h => by simp [items] at h; subst h; exact ⟨rfl, rfl, fun h => absurd rfl h⟩
  | x :: xs, l, h => by
    rw [items] at h
    cases hx : item x with
    | none => rw [hx] at h; cases h
    | some r =>
      rw [hx] at h
      cases hl : items xs with
      | none => rw [hl] at h; cases h
      | some m =>
        rw [hl] at h
        simp at h
        subst h
        obtain ⟨h1, h2, h3⟩ := items_ok hl
        obtain ⟨g1, g2⟩ := item_ok hx
        refine ⟨by simp [g1, h1], by simp [h2], fun _ => ?_⟩
        cases m with
        | nil => rw [tell_one]; simp; omega
        | cons q m =>
          have := h3 (by simp)
          rw [tell_cons]
          simp at this ⊢
          omega
theorem parse_ok {s : List UInt8} {l : List R} (h : parse s = some l) : l ≠ [] ∧ l.all okR = true ∧ (tell l).length ≤ s.length + l.length ∧ 2 * l.length ≤ s.length + 1 := by
  obtain ⟨h1, h2, h3⟩ := items_ok h
  have hl := splitC_len s
  have hne : l ≠ [] := by rintro rfl; exact splitC_ne s (List.eq_nil_of_length_eq_zero h2.symm)
  have := h3 hne
  refine ⟨hne, h1, by omega, ?_⟩
  rw [h2, ← hl]
  have each : ∀ x ∈ splitC s, 2 ≤ x.length + 1 := by
    intro x hx
    have : ∀ {xs : List (List UInt8)} {l : List R}, items xs = some l → x ∈ xs → item x ≠ none := by
      intro xs
      induction xs with
      | nil => intro l _ hx; simp at hx
      | cons y ys ih =>
        intro l h hx
        rw [items] at h
        cases hy : item y with
        | none => rw [hy] at h; cases h
        | some r =>
          rw [hy] at h
          rcases List.mem_cons.1 hx with rfl | hx
          · rw [hy]; simp
          · cases hl : items ys with
            | none => rw [hl] at h; cases h
            | some m => exact ih hl hx
    have := this h hx
    cases x with
    | nil => exact absurd rfl this
    | cons c t => simp
  have gen : ∀ xs : List (List UInt8), (∀ x ∈ xs, 2 ≤ x.length + 1) → 2 * xs.length ≤ (xs.map (fun x => x.length + 1)).sum := by
    intro xs
    induction xs with
    | nil => intro _; simp
    | cons y ys ih =>
      intro h
      have := ih (fun x hx => h x (by simp [hx]))
      have := h y (by simp)
      simp at *
      omega
  exact gen _ each
end Go.Proofs.YtijoemamnkhhnaaGreatDoor.Ls
