/- Texts of paths, in plain words: their parts, the last one, what is ahead of it. -/
import Derived.Test.YtbajjbgeohbdjaaCuBase
import Derived.Lib.FieldsP
import Derived.Laws.RangeString
import Derived.Laws.RangeAny
import Derived.Lib.IndexBytes
namespace Go.Proofs.Ytbajjbgeohbdjaa.Pt
open Go.RowKit Go.Proofs.Ytbajjbgeohbdjaa.Cu

def tx (c : Bs) : ByteArray := ⟨c.toArray⟩
theorem bs_tx (c : Bs) : bs (tx c) = c := by simp [bs, tx]
/-- the parts of a path; c: what was read of the part that is under way -/
def prt (c : Bs) : Bs → List ByteArray
  | [] => if c = [] then [] else [tx c]
  | x :: s => if x = 47 then (if c = [] then prt [] s else tx c :: prt [] s) else prt (c ++ [x]) s
def partsP (s : ByteArray) : List ByteArray := prt [] (bs s)
def begins (s : ByteArray) : Bool := decide ((bs s).head? = some 47)
def ends (s : ByteArray) : Bool := decide ((bs s).getLast? = some 47)
theorem prt_len : ∀ (s c : Bs), (prt c s).length ≤ s.length + 1
  | [], c => by unfold prt; split <;> simp
  | x :: s, c => by
    unfold prt
    split
    · split
      · have := prt_len s []; simp; omega
      · have := prt_len s []; simp; omega
    · have := prt_len s (c ++ [x]); simp; omega
theorem parts_len (s : ByteArray) : (partsP s).length ≤ s.size + 1 := prt_len _ _
theorem ext_tx (s : ByteArray) (a b : Nat) : s.extract a b = tx (((bs s).drop a).take (b - a)) := by
  apply ByteArray.ext
  rw [ByteArray.data_extract]
  apply Array.toList_inj.1
  simp [tx, bs]
theorem prt_skip : ∀ (m c s : Bs), (∀ x ∈ m, x ≠ 47) → prt c (m ++ s) = prt (c ++ m) s
  | [], c, s, _ => by simp
  | x :: m, c, s, h => by
    have hx : x ≠ 47 := h x (by simp)
    show (if x = 47 then _ else prt (c ++ [x]) (m ++ s)) = _
    rw [if_neg hx, prt_skip m _ s (fun y hy => h y (by simp [hy]))]
    simp
/-- what a decoded rune takes lies in the text, and none of it is plain -/
theorem decode_span (s : ByteArray) (pos : Nat) (h : pos < s.size) (ha : 128 ≤ (s[pos]'h).toNat) :
    pos + (Utf8.decode s pos).2 ≤ s.size ∧ ∀ j, pos ≤ j → j < pos + (Utf8.decode s pos).2 → ∀ b, s.data.toList[j]? = some b → 128 ≤ b.toNat := by
  have hn : ¬ (s[pos]'h).toNat < 128 := by omega
  have hat : ∀ k b, s.data.toList[pos + k]? = some b → (s.get! (pos + k)).toNat = b.toNat := fun k b hb => by
    have hlt : pos + k < s.size := by have := (List.getElem?_eq_some_iff.1 hb).1; simpa using this
    have e := Lib.data_getElem? s (pos + k) hlt
    rw [hb] at e
    have e2 : b = s[pos + k] := Option.some.inj e
    have e3 : s.get! (pos + k) = s[pos + k] := by simp [ByteArray.get!, getElem!_pos, hlt]; rfl
    rw [e3, e2]
  have key : ∀ n, (∀ k, 1 ≤ k → k < n → pos + k < s.size ∧ (s.get! (pos + k)).toNat / 64 = 2) → pos + n ≤ s.size ∨ n = 0 → ∀ j, pos ≤ j → j < pos + n → ∀ b, s.data.toList[j]? = some b → 128 ≤ b.toNat := by
    intro n hk _ j h1 h2 b hb
    obtain ⟨k, rfl⟩ : ∃ k, j = pos + k := ⟨j - pos, by omega⟩
    by_cases h0 : k = 0
    · subst h0
      have e := Lib.data_getElem? s pos h
      rw [Nat.add_zero, e] at hb
      rw [← Option.some.inj hb]
      exact ha
    · have h3 := (hk k (by omega) (by omega)).2
      rw [hat k b hb] at h3
      omega
  have one : pos + 1 ≤ s.size ∧ ∀ j, pos ≤ j → j < pos + 1 → ∀ b, s.data.toList[j]? = some b → 128 ≤ b.toNat := ⟨by omega, key 1 (fun k h1 h2 => by omega) (.inl (by omega))⟩
  simp only [Utf8.decode, get_at s pos h, hn, if_false]
  split
  · rename_i hc
    simp only [Bool.and_eq_true, decide_eq_true_eq, beq_iff_eq] at hc
    split
    · refine ⟨by simp only []; omega, key 2 (fun k h1 h2 => ?_) (.inl (by omega))⟩
      obtain rfl : k = 1 := by omega
      exact hc.2
    · exact one
  · split
    · rename_i hc
      simp only [Bool.and_eq_true, decide_eq_true_eq, beq_iff_eq] at hc
      split
      · refine ⟨by simp only []; omega, key 3 (fun k h1 h2 => ?_) (.inl (by omega))⟩
        rcases (show k = 1 ∨ k = 2 by omega) with rfl | rfl
        · exact hc.1.2
        · exact hc.2
      · exact one
    · split
      · rename_i hc
        simp only [Bool.and_eq_true, decide_eq_true_eq, beq_iff_eq] at hc
        split
        · refine ⟨by simp only []; omega, key 4 (fun k h1 h2 => ?_) (.inl (by omega))⟩
          rcases (show k = 1 ∨ k = 2 ∨ k = 3 by omega) with rfl | rfl | rfl
          · exact hc.1.1.2
          · exact hc.1.2
          · exact hc.2
        · exact one
      · exact one
theorem decode_ge (s : ByteArray) (pos : Nat) (h : pos < s.size) (ha : 128 ≤ (s[pos]'h).toNat) : 128 ≤ (Utf8.decode s pos).1 := by
  rw [Lib.decode_at]
  have e3 : s.get! pos = s[pos] := get_at s pos h
  rw [e3]
  generalize (s[pos]'h).toNat = b0 at *
  unfold Lib.decodeN
  rw [if_neg (by omega)]
  (repeat' split) <;> simp only [] <;> omega
theorem drop_at (l : Bs) (i : Nat) (h : i < l.length) : l.drop i = l.getD i 0 :: l.drop (i + 1) := by
  rw [List.drop_eq_getElem_cons h]
  simp [List.getD, List.getElem?_eq_getElem h]
theorem byte_at (s : ByteArray) (pos : Nat) (h : pos < s.size) : (bs s).getD pos 0 = s[pos] := by
  have e := Lib.data_getElem? s pos h
  simp [bs, List.getD, e]
def isSl (r : Nat) : Bool := r == 47
def cur (s : ByteArray) (st : Option Nat) (pos : Nat) : Bs := match st with
  | none => []
  | some a => ((bs s).drop a).take (pos - a)
theorem spans_parts (s : ByteArray) : ∀ (f pos : Nat) (st : Option Nat) (acc : List (Nat × Nat)), s.size ≤ pos + f → pos ≤ s.size → (∀ a, st = some a → a < pos) →
    (Lib.closeSpans s (Lib.spansFromP isSl s f pos st acc)).map (fun x => s.extract x.1 x.2) = acc.map (fun x => s.extract x.1 x.2) ++ prt (cur s st pos) ((bs s).drop pos) := by
  intro f
  have hlen : (bs s).length = s.size := rfl
  have hend : ∀ (pos : Nat) (st : Option Nat) (acc : List (Nat × Nat)), pos = s.size → (∀ a, st = some a → a < pos) → (Lib.closeSpans s (acc, st)).map (fun x => s.extract x.1 x.2) = acc.map (fun x => s.extract x.1 x.2) ++ prt (cur s st pos) ((bs s).drop pos) := by
    intro pos st acc hp hst
    rw [List.drop_of_length_le (by omega)]
    cases st with
    | none => simp [Lib.closeSpans, cur, prt]
    | some a =>
      have ha := hst a rfl
      have hne : cur s (some a) pos ≠ [] := by
        intro e
        have := congrArg List.length e
        simp only [cur] at this
        rw [List.length_take, List.length_drop, hlen] at this
        simp at this; omega
      simp only [Lib.closeSpans, prt]
      rw [if_neg hne, List.map_append]
      simp only [cur]
      rw [hp, ← ext_tx]
      rfl
  induction f with
  | zero => intro pos st acc h1 h2 hst; exact hend pos st acc (by omega) hst
  | succ f ih =>
    intro pos st acc h1 h2 hst
    unfold Lib.spansFromP
    by_cases hlt : pos < s.size
    case neg => rw [if_neg hlt]; exact hend pos st acc (by omega) hst
    rw [if_pos hlt]
    by_cases hb : (s[pos]'hlt).toNat < 128
    · rw [decode_ascii s pos hlt hb]
      simp only
      rw [drop_at (bs s) pos (by omega), byte_at s pos hlt]
      by_cases h47 : s[pos] = 47
      · have hp : isSl (s[pos]'hlt).toNat = true := by rw [h47]; rfl
        rw [if_pos hp]
        unfold prt
        rw [if_pos h47]
        cases st with
        | none =>
          simp only [cur, if_true]
          rw [ih (pos + 1) none acc (by omega) (by omega) (by simp)]
          rfl
        | some a =>
          have ha := hst a rfl
          have hne : cur s (some a) pos ≠ [] := by
            intro e
            have := congrArg List.length e
            simp only [cur] at this
            rw [List.length_take, List.length_drop, hlen] at this
            simp at this; omega
          simp only []
          rw [if_neg hne, ih (pos + 1) none _ (by omega) (by omega) (by simp), List.map_append]
          simp only [cur]
          rw [← ext_tx]
          simp
      · have hp : ¬ isSl (s[pos]'hlt).toNat = true := by
          unfold isSl
          rw [beq_iff_eq]
          exact fun e => h47 (UInt8.toNat_inj.1 e)
        rw [if_neg hp]
        unfold prt
        rw [if_neg h47]
        cases st with
        | none =>
          simp only [cur]
          rw [ih (pos + 1) (some pos) acc (by omega) (by omega) (fun a e => by injection e; omega)]
          simp only [cur]
          rw [show pos + 1 - pos = 1 by omega, drop_at (bs s) pos (by omega), byte_at s pos hlt]
          rfl
        | some a =>
          have ha := hst a rfl
          simp only [cur]
          rw [ih (pos + 1) (some a) acc (by omega) (by omega) (fun a' e => by injection e; omega)]
          simp only [cur]
          have e1 : ((bs s).drop a).take (pos + 1 - a) = ((bs s).drop a).take (pos - a) ++ [s[pos]] := by
            rw [show pos + 1 - a = (pos - a) + 1 by omega, List.take_add_one, List.getElem?_drop, show a + (pos - a) = pos by omega]
            have := Lib.data_getElem? s pos hlt
            simp [bs, this]
          rw [e1]
    · have hb' : 128 ≤ (s[pos]'hlt).toNat := by omega
      have hge := decode_ge s pos hlt hb'
      obtain ⟨d1, d2⟩ := decode_span s pos hlt hb'
      have hw := Lib.width_pos s pos
      have hp : ¬ isSl (Utf8.decode s pos).1 = true := by unfold isSl; rw [beq_iff_eq]; omega
      rw [if_neg hp]
      generalize (Utf8.decode s pos).2 = K at *
      have e0 : (bs s).drop pos = ((bs s).drop pos).take K ++ (bs s).drop (pos + K) := by
        rw [← List.drop_drop, List.take_append_drop]
      have hm : ∀ x ∈ ((bs s).drop pos).take K, x ≠ 47 := by
        intro x hx e
        obtain ⟨j, hj, rfl⟩ := List.getElem_of_mem hx
        have hj' := hj
        rw [List.length_take] at hj'
        have q := d2 (pos + j) (by omega) (by omega) (((bs s).drop pos).take K)[j] (by
          rw [List.getElem_take, List.getElem_drop]
          exact List.getElem?_eq_getElem _)
        rw [e] at q
        exact absurd q (by decide)
      rw [e0, prt_skip _ _ _ hm]
      cases st with
      | none =>
        simp only []
        rw [ih (pos + K) (some pos) acc (by omega) (by omega) (fun a e => by injection e; omega)]
        simp only [cur]
        rw [show pos + K - pos = K by omega]
        rfl
      | some a =>
        have ha := hst a rfl
        simp only []
        rw [ih (pos + K) (some a) acc (by omega) (by omega) (fun a' e => by injection e; omega)]
        simp only [cur]
        have e1 : ((bs s).drop a).take (pos + K - a) = ((bs s).drop a).take (pos - a) ++ ((bs s).drop pos).take K := by
          rw [show pos + K - a = (pos - a) + K by omega, List.take_add, List.drop_drop, show a + (pos - a) = pos by omega]
        rw [e1]
theorem fields_parts (s : ByteArray) : Lib.goFieldsP isSl s = partsP s := by
  unfold Lib.goFieldsP Lib.spansOfP
  rw [spans_parts s s.size 0 none [] (by omega) (by omega) (by simp)]
  simp [cur, partsP]
/-- a path without the slashes at its end -/
def bareB (l : Bs) : Bs := (l.reverse.dropWhile (· == 47)).reverse
/-- the place behind the last slash -/
def lastB (l : Bs) : Nat := l.length - (l.reverse.takeWhile (· != 47)).length
theorem last_le (l : Bs) : lastB l ≤ l.length := Nat.sub_le _ _
theorem takeWhile_append_stop {p : UInt8 → Bool} : ∀ (a b : Bs), (∀ x ∈ a, p x = true) → (∀ y, b.head? = some y → p y = false) → (a ++ b).takeWhile p = a
  | [], b, _, h => by
    cases b with
    | nil => rfl
    | cons y b => simp [h y rfl]
  | x :: a, b, h1, h2 => by
    rw [List.cons_append, List.takeWhile_cons, if_pos (h1 x (by simp)), takeWhile_append_stop a b (fun y hy => h1 y (by simp [hy])) h2]
theorem last_app (a b : Bs) (ha : a = [] ∨ a.getLast? = some 47) (hb : ∀ x ∈ b, x ≠ 47) : lastB (a ++ b) = a.length := by
  unfold lastB
  rw [List.reverse_append, takeWhile_append_stop b.reverse a.reverse (fun x hx => by simpa using hb x (by simpa using hx)) (fun y hy => by
    rw [List.head?_reverse] at hy
    rcases ha with rfl | ha
    · simp at hy
    · rw [ha] at hy; simp at hy; simp [← hy])]
  simp
theorem last_is (l : Bs) (k : Nat) (h1 : ∀ x ∈ l.drop k, x ≠ 47) (h2 : k = 0 ∨ (0 < k ∧ l[k - 1]? = some 47)) : lastB l = k := by
  have e := last_app (l.take k) (l.drop k) (by
    rcases h2 with rfl | ⟨h0, h2⟩
    · exact .inl rfl
    · right
      have hlt := (List.getElem?_eq_some_iff.1 h2).1
      rw [List.getLast?_eq_getElem?, List.length_take, Nat.min_eq_left (by omega), List.getElem?_take_of_lt (by omega)]
      exact h2) h1
  rw [List.take_append_drop] at e
  rw [e, List.length_take]
  rcases h2 with rfl | ⟨h0, h2⟩
  · simp
  · have hlt := (List.getElem?_eq_some_iff.1 h2).1
    omega
theorem of_takeWhile {p : UInt8 → Bool} {x : UInt8} : ∀ {l : Bs}, x ∈ l.takeWhile p → p x = true
  | [], h => by simp at h
  | y :: l, h => by
    rw [List.takeWhile_cons] at h
    split at h
    · rcases List.mem_cons.1 h with rfl | h
      · assumption
      · exact of_takeWhile h
    · simp at h
/-- a text is what stands ahead of the place behind the last slash, and a part without slashes -/
theorem last_parts (l : Bs) : (l.take (lastB l) = [] ∨ (l.take (lastB l)).getLast? = some 47) ∧ ∀ x ∈ l.drop (lastB l), x ≠ 47 := by
  obtain ⟨r, hr⟩ : ∃ r, r = l.reverse := ⟨_, rfl⟩
  have hl : l = (r.dropWhile (· != 47)).reverse ++ (r.takeWhile (· != 47)).reverse := by
    rw [← List.reverse_append, List.takeWhile_append_dropWhile, hr, List.reverse_reverse]
  have hk : lastB l = (r.dropWhile (· != 47)).reverse.length := by
    unfold lastB
    rw [← hr]
    have e1 := congrArg List.length hl
    rw [List.length_append, List.length_reverse, List.length_reverse] at e1
    rw [List.length_reverse]; omega
  have h1 : l.take (lastB l) = (r.dropWhile (· != 47)).reverse := by
    rw [hk]
    exact (congrArg (List.take _) hl).trans List.take_left
  have h2 : l.drop (lastB l) = (r.takeWhile (· != 47)).reverse := by
    rw [hk]
    exact (congrArg (List.drop _) hl).trans List.drop_left
  rw [h1, h2]
  refine ⟨?_, fun x hx => ?_⟩
  · rw [List.getLast?_reverse]
    cases e : r.dropWhile (· != 47) with
    | nil => exact .inl rfl
    | cons y t =>
      right
      have : (r.dropWhile (· != 47)).head? = some y := by rw [e]; rfl
      have := List.head?_dropWhile_not (fun x => x != 47) r
      rw [e] at this
      simp at this
      simp [this]
  · have := of_takeWhile (p := fun x => x != 47) (show x ∈ r.takeWhile (· != 47) by simpa using hx)
    simpa using this
theorem bare_end (l : Bs) : (bareB l).getLast? ≠ some 47 := by
  unfold bareB
  rw [List.getLast?_reverse]
  have := List.head?_dropWhile_not (fun x => x == 47) l.reverse
  intro e
  rw [e] at this
  simp at this
theorem bare_self (l : Bs) (h : l.getLast? ≠ some 47) : bareB l = l := by
  unfold bareB
  cases e : l.reverse with
  | nil => have := congrArg List.reverse e; simpa using this.symm
  | cons x t =>
    have hx : x ≠ 47 := by
      intro ex
      apply h
      rw [← List.head?_reverse, e, ex]; rfl
    rw [List.dropWhile_cons, if_neg (by simpa using hx), ← e, List.reverse_reverse]
theorem bare_snoc (l : Bs) : bareB (l ++ [47]) = bareB l := by
  unfold bareB
  rw [List.reverse_append]
  simp
theorem bare_nil : bareB [] = [] := rfl
def baseB (s : Bs) : Bs := if s = [] then [46] else if bareB s = [] then [47] else (bareB s).drop (lastB (bareB s))
def dirB (s : Bs) : Bs := if bareB ((bareB s).take (lastB (bareB s))) ≠ [] then bareB ((bareB s).take (lastB (bareB s))) else if s.head? = some 47 then [47] else [46]
def joinB (p n : Bs) : Bs := if p = [] ∨ p.getLast? = some 47 then p ++ n else p ++ 47 :: n
theorem getLast_app (a b : Bs) (h : b ≠ []) : (a ++ b).getLast? = b.getLast? := by
  rw [List.getLast?_append]
  cases e : b.getLast? with
  | none => rw [List.getLast?_eq_none_iff] at e; exact absurd e h
  | some x => rfl
theorem noSl_end {b : Bs} (h : ∀ x ∈ b, x ≠ 47) : b.getLast? ≠ some 47 := fun e => h 47 (List.mem_of_getLast? e) rfl
/-- a path of something that ends with a slash, or is empty, and a part -/
theorem base_app (a b : Bs) (ha : a = [] ∨ a.getLast? = some 47) (hb : ∀ x ∈ b, x ≠ 47) (hn : b ≠ []) : baseB (a ++ b) = b ∧ bareB (a ++ b) = a ++ b ∧ lastB (a ++ b) = a.length := by
  have h1 : bareB (a ++ b) = a ++ b := bare_self _ (by rw [getLast_app a b hn]; exact noSl_end hb)
  have h2 := last_app a b ha hb
  refine ⟨?_, h1, h2⟩
  unfold baseB
  rw [h1, if_neg (by simp [hn]), if_neg (by simp [hn]), h2, List.drop_left]
theorem base_join (p n : Bs) (hn : n ≠ []) (hs : ∀ x ∈ n, x ≠ 47) : baseB (joinB p n) = n := by
  unfold joinB
  split
  · rename_i h
    exact (base_app p n h hs hn).1
  · rw [show p ++ 47 :: n = (p ++ [47]) ++ n by simp]
    exact (base_app (p ++ [47]) n (.inr (by simp)) hs hn).1
theorem split_one (s : Bs) (h : baseB s ≠ [47]) : baseB (joinB (dirB s) (baseB s)) = baseB s ∧ dirB (joinB (dirB s) (baseB s)) = dirB s := by
  by_cases h0 : s = []
  · subst h0; exact ⟨by decide, by decide⟩
  obtain ⟨b, hb⟩ : ∃ b, b = bareB s := ⟨_, rfl⟩
  have hbn : b ≠ [] := by
    intro e
    apply h
    unfold baseB
    rw [if_neg h0, ← hb, if_pos e]
  have hbe : b.getLast? ≠ some 47 := by rw [hb]; exact bare_end s
  obtain ⟨h1, h2⟩ := last_parts b
  have hB : baseB s = b.drop (lastB b) := by unfold baseB; rw [if_neg h0, ← hb, if_neg hbn]
  have hBn : b.drop (lastB b) ≠ [] := by
    intro e
    have hle := last_le b
    have e2 : b.take (lastB b) = b := by
      have := List.take_append_drop (lastB b) b
      rw [e, List.append_nil] at this; exact this
    rw [e2] at h1
    rcases h1 with h1 | h1
    · exact hbn h1
    · exact hbe h1
  rw [hB]
  obtain ⟨B, hBe⟩ : ∃ B, B = b.drop (lastB b) := ⟨_, rfl⟩
  rw [← hBe] at h2 hBn ⊢
  have hj : baseB (joinB (dirB s) B) = B := base_join _ _ hBn h2
  refine ⟨hj, ?_⟩
  have hD : dirB s = if bareB (b.take (lastB b)) ≠ [] then bareB (b.take (lastB b)) else if s.head? = some 47 then [47] else [46] := by unfold dirB; rw [← hb]
  by_cases hh : bareB (b.take (lastB b)) ≠ []
  · rw [if_pos hh] at hD
    obtain ⟨H, hH⟩ : ∃ H, H = bareB (b.take (lastB b)) := ⟨_, rfl⟩
    rw [← hH] at hD hh
    have hHe : H.getLast? ≠ some 47 := by rw [hH]; exact bare_end _
    rw [hD]
    have ej : joinB H B = (H ++ [47]) ++ B := by
      unfold joinB
      rw [if_neg (by simp [hh, hHe])]; simp
    obtain ⟨_, e1, e2⟩ := base_app (H ++ [47]) B (.inr (by simp)) h2 hBn
    unfold dirB
    rw [ej, e1, e2, List.take_left, bare_snoc, bare_self H hHe, if_pos hh]
  · rw [if_neg hh] at hD
    by_cases hs : s.head? = some 47
    · rw [if_pos hs] at hD
      rw [hD]
      have ej : joinB [47] B = [47] ++ B := by unfold joinB; rw [if_pos (.inr rfl)]
      obtain ⟨_, e1, e2⟩ := base_app [47] B (.inr rfl) h2 hBn
      unfold dirB
      rw [ej, e1, e2, List.take_left, if_neg (by decide), if_pos (by simp)]
    · rw [if_neg hs] at hD
      rw [hD]
      have ej : joinB [46] B = [46, 47] ++ B := by unfold joinB; rw [if_neg (by decide)]; rfl
      obtain ⟨_, e1, e2⟩ := base_app [46, 47] B (.inr rfl) h2 hBn
      unfold dirB
      rw [ej, e1, e2, List.take_left, if_pos (by decide)]
      decide
end Go.Proofs.Ytbajjbgeohbdjaa.Pt
