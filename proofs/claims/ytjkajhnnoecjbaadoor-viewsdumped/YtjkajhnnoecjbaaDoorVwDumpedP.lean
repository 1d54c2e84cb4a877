/- The lines of a dump, and octal digits read back, in plain words. -/
import Derived.Test.YtjkajhnnoecjbaaDoorVwOctP
import Derived.Test.YtjkajhnnoecjbaaDoorVwDump
import Derived.Test.YtjkajhnnoecjbaaDoorLnFields
set_option linter.unusedVariables false
namespace Go.Proofs.YtjkajhnnoecjbaaDoor.Vw
open Go.RowKit Cu

/-- what stands for a byte -/
def cellD (c : UInt8) : Bs := 32 :: octP c.toNat 3
/-- a line of sixteen -/
def lineAt (s : Bs) (i : Nat) : Bs := octP (16 * i) 7 ++ ((s.drop (16 * i)).take 16).flatMap cellD
def linesTo (s : Bs) (q : Nat) : Bs := (List.range q).flatMap fun i => lineAt s i ++ [10]
theorem linesTo_succ (s : Bs) (q : Nat) : linesTo s (q + 1) = linesTo s q ++ (lineAt s q ++ [10]) := by
  unfold linesTo
  rw [List.range_succ, List.flatMap_append, List.flatMap_cons, List.flatMap_nil, List.append_nil]
theorem take_more (s : Bs) (k r : Nat) (h : k + r < s.length) : (s.drop k).take (r + 1) = (s.drop k).take r ++ [s.getD (k + r) 0] := by
  rw [List.take_succ_eq_append_getElem (by rw [List.length_drop]; omega), List.getElem_drop]
  simp [List.getD, List.getElem?_eq_getElem h]
theorem dump_row (s : Bs) (q : Nat) (h0 : dumpTo s (16 * q) ++ nl (16 * q) = linesTo s q) : ∀ r, r < 16 → 16 * q + r < s.length →
    dumpTo s (16 * q + (r + 1)) = linesTo s q ++ octP (16 * q) 7 ++ ((s.drop (16 * q)).take (r + 1)).flatMap cellD
  | 0, _, h => by
    rw [take_more s (16 * q) 0 (by omega)]
    show dumpTo s (16 * q + 1) = _
    rw [dumpTo, if_pos (by omega), ← h0]
    simp [cellD, List.append_assoc]
  | r + 1, hr, h => by
    have ih := dump_row s q h0 r (by omega) (by omega)
    rw [take_more s (16 * q) (r + 1) (by omega), List.flatMap_append, ← List.append_assoc, ← ih]
    show dumpTo s (16 * q + (r + 1) + 1) = _
    rw [dumpTo, if_neg (by omega)]
    simp [cellD]
theorem dump_line (s : Bs) : ∀ q, 16 * q ≤ s.length → dumpTo s (16 * q) ++ nl (16 * q) = linesTo s q
  | 0, _ => rfl
  | q + 1, h => by
    have ih := dump_line s q (by omega)
    have h1 := dump_row s q ih 15 (by omega) (by omega)
    rw [linesTo_succ, show 16 * (q + 1) = 16 * q + (15 + 1) by omega, h1]
    unfold lineAt nl
    rw [if_pos (by omega)]
    simp [List.append_assoc]
/-- so many lines of bytes -/
def rowsN (n : Nat) : Nat := (n + 15) / 16
theorem dump_all (s : Bs) : dumpTo s s.length ++ nl s.length = linesTo s (rowsN s.length) := by
  by_cases h : s.length % 16 = 0
  · have h1 := dump_line s (s.length / 16) (by omega)
    rw [show 16 * (s.length / 16) = s.length by omega] at h1
    rw [h1, show rowsN s.length = s.length / 16 by unfold rowsN; omega]
  · have h1 := dump_row s (s.length / 16) (dump_line s _ (by omega)) (s.length % 16 - 1) (by omega) (by omega)
    rw [show 16 * (s.length / 16) + (s.length % 16 - 1 + 1) = s.length by omega] at h1
    rw [h1, show rowsN s.length = s.length / 16 + 1 by unfold rowsN; omega, linesTo_succ]
    unfold lineAt nl
    rw [if_pos (by omega), List.take_of_length_le (i := s.length % 16 - 1 + 1) (by rw [List.length_drop]; omega), List.take_of_length_le (i := 16) (by rw [List.length_drop]; omega)]
    simp [List.append_assoc]
/-- all lines -/
def linesD (s : Bs) : List Bs := (List.range (rowsN s.length)).map (lineAt s) ++ [octP s.length 7]
theorem linesD_len (s : Bs) : (linesD s).length = rowsN s.length + 1 := by simp [linesD]
theorem dumpP_lines (s : Bs) : dumpP s = (linesD s).flatMap fun x => x ++ [10] := by
  unfold dumpP linesD
  rw [dump_all, List.flatMap_append, List.flatMap_map]
  simp [linesTo, List.append_assoc]

/-! ### digits -/
theorem dg_toNat (n : Nat) : (dg n).toNat = 48 + n % 8 := by
  unfold dg
  rw [UInt8.toNat_ofNat']
  omega
def isDig (c : UInt8) : Prop := 48 ≤ c.toNat ∧ c.toNat ≤ 55
theorem d0_digs (n : Nat) : ∀ c ∈ d0 n, isDig c := by
  induction n using Nat.strongRecOn with
  | _ n ih =>
    by_cases hn : n = 0
    · subst hn; rw [d0_zero]; intro c hc; simp at hc
    · rw [d0_pos n (by omega)]
      intro c hc
      rcases List.mem_append.1 hc with h | h
      · exact ih (n / 8) (by omega) c h
      · obtain rfl := List.mem_singleton.1 h
        unfold isDig; rw [dg_toNat]; omega
theorem octP_digs (n w : Nat) : ∀ c ∈ octP n w, isDig c := by
  intro c hc
  unfold octP at hc
  rcases List.mem_append.1 hc with h | h
  · rw [(List.mem_replicate.1 h).2]; exact ⟨by decide, by decide⟩
  · unfold digs at h
    split at h
    · obtain rfl := List.mem_singleton.1 h; exact ⟨by decide, by decide⟩
    · exact d0_digs n c h
/-- what octal digits tell -/
def val (l : Bs) : Nat := l.foldl (fun n c => 8 * n + (c.toNat - 48)) 0
theorem val_snoc (l : Bs) (c : UInt8) : val (l ++ [c]) = 8 * val l + (c.toNat - 48) := by simp [val, List.foldl_append]
theorem val_d0 (n : Nat) : val (d0 n) = n := by
  induction n using Nat.strongRecOn with
  | _ n ih =>
    by_cases hn : n = 0
    · subst hn; rw [d0_zero]; rfl
    · rw [d0_pos n (by omega), val_snoc, ih (n / 8) (by omega), dg_toNat]; omega
theorem val_noughts (l : Bs) : ∀ k, val (List.replicate k 48 ++ l) = val l
  | 0 => rfl
  | k + 1 => by
    rw [List.replicate_succ]
    exact val_noughts l k
theorem val_octP (n w : Nat) : val (octP n w) = n := by
  unfold octP
  rw [val_noughts]
  unfold digs
  split
  · rename_i h; subst h; rfl
  · exact val_d0 n
theorem val_take_lt (l : Bs) (h : ∀ c ∈ l, isDig c) : ∀ k, k ≤ l.length → val (l.take k) < 8 ^ k
  | 0, _ => by rw [List.take_zero]; decide
  | k + 1, hk => by
    have h1 := val_take_lt l h k (by omega)
    have h2 := h l[k] (List.getElem_mem _)
    unfold isDig at h2
    rw [List.take_succ_eq_append_getElem (by omega), val_snoc, Nat.pow_succ]; omega
theorem octP_len7 (n : Nat) (h : n < 8 ^ 7) : (octP n 7).length = 7 := by
  have h1 : (digs n).length ≤ 7 := by
    by_cases hn : n = 0
    · rw [hn, digs_zero]; simp
    · rw [digs_pos _ (by omega)]; exact d0_len 7 _ h
  unfold octP
  simp; omega

/-! ### lines and fields -/
theorem cellD_clean (c : UInt8) : ∀ d ∈ cellD c, Ln.isEnd d = false := by
  intro d hd
  unfold cellD at hd
  rcases List.mem_cons.1 hd with rfl | hd
  · rfl
  · have := octP_digs _ _ d hd
    unfold isDig at this
    simp [Ln.isEnd]; omega
theorem lineAt_clean (s : Bs) (i : Nat) : ∀ d ∈ lineAt s i, Ln.isEnd d = false := by
  intro d hd
  unfold lineAt at hd
  rcases List.mem_append.1 hd with hd | hd
  · have := octP_digs _ _ d hd
    unfold isDig at this
    simp [Ln.isEnd]; omega
  · obtain ⟨c, _, hc⟩ := List.mem_flatMap.1 hd
    exact cellD_clean c d hc
theorem linesD_parts (s : Bs) : Ln.parts Ln.isEnd (dumpP s) = (linesD s).map fun x => (x, true) := by
  rw [dumpP_lines]
  refine Ln.parts_flat rfl _ ?_
  intro x hx d hd
  unfold linesD at hx
  rcases List.mem_append.1 hx with hx | hx
  · obtain ⟨i, _, rfl⟩ := List.mem_map.1 hx
    exact lineAt_clean s i d hd
  · obtain rfl := List.mem_singleton.1 hx
    have := octP_digs _ _ d hd
    unfold isDig at this
    simp [Ln.isEnd]; omega
theorem lastT_cons (x : List UInt8) (p : List (List UInt8 × Bool)) : Ln.lastT ((x, true) :: p) = Ln.lastT p := by
  cases p with
  | nil => rfl
  | cons q r => simp [Ln.lastT, List.getLast?_cons]
theorem fields_flat : ∀ (ys : List Bs) (x : Bs), (∀ c ∈ x, Ln.isSep 32 c = false) → (∀ y ∈ ys, ∀ c ∈ y, Ln.isSep 32 c = false) → Ln.fieldsL 32 (x ++ ys.flatMap fun y => 32 :: y) = x :: ys
  | [], x, hx, _ => by
    rw [List.flatMap_nil, List.append_nil]
    unfold Ln.fieldsL
    rw [if_neg (by decide)]
    by_cases h : x = []
    · subst h; rfl
    · rw [Ln.parts_end x hx h]; rfl
  | y :: ys, x, hx, hy => by
    have ih := fields_flat ys y (hy y (by simp)) (fun z hz => hy z (by simp [hz]))
    unfold Ln.fieldsL at ih ⊢
    rw [if_neg (by decide)] at ih ⊢
    rw [List.flatMap_cons, List.cons_append, Ln.parts_hit x 32 _ hx rfl, lastT_cons, List.map_cons, List.cons_append, ih]
/-- the bytes of a line -/
def chunk (s : Bs) (i : Nat) : Bs := (s.drop (16 * i)).take 16
/-- the fields of a line -/
def fieldsD (s : Bs) (i : Nat) : List Bs := octP (16 * i) 7 :: (chunk s i).map fun c => octP c.toNat 3
theorem octP_sep (n w : Nat) : ∀ c ∈ octP n w, Ln.isSep 32 c = false := by
  intro d hd
  have := octP_digs _ _ d hd
  unfold isDig at this
  simp [Ln.isSep]; omega
theorem lineAt_fields (s : Bs) (i : Nat) : Ln.fieldsL 32 (lineAt s i) = fieldsD s i := by
  have h := fields_flat ((chunk s i).map fun c => octP c.toNat 3) (octP (16 * i) 7) (octP_sep _ _) (by
    intro y hy
    obtain ⟨c, _, rfl⟩ := List.mem_map.1 hy
    exact octP_sep _ _)
  rw [List.flatMap_map] at h
  exact h
theorem chunk_len (s : Bs) (i : Nat) (h : i < rowsN s.length) : 1 ≤ (chunk s i).length ∧ (chunk s i).length ≤ 16 ∧ ((chunk s i).length < 16 → i + 1 = rowsN s.length) := by
  unfold chunk rowsN at *
  rw [List.length_take, List.length_drop]
  omega
theorem fieldsD_len (s : Bs) (i : Nat) : (fieldsD s i).length = (chunk s i).length + 1 := by simp [fieldsD]
theorem chunk_next (s : Bs) (i : Nat) : s.take (16 * i) ++ chunk s i = s.take (16 * (i + 1)) := by
  unfold chunk
  rw [show 16 * (i + 1) = 16 * i + 16 by omega, List.take_add]
end Go.Proofs.YtjkajhnnoecjbaaDoor.Vw
