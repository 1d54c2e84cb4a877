/- Parts that are a point make no difference, in plain words. -/
import Derived.Test.YthmoinagfooncaaDoorPtBackP
namespace Go.Proofs.YthmoinagfooncaaDoor.Pt
open Go.RowKit Go.Proofs.YthmoinagfooncaaDoor.Cu Go.Proofs.YthmoinagfooncaaDoor.Tr Go.Proofs.YthmoinagfooncaaDoor.Pm

/-- so many points and slashes by turns -/
def idle : Nat → Bs
  | 0 => []
  | k + 1 => idle k ++ (if k % 2 = 0 then [46, 47] else [47])
theorem prt_cons (c : Bs) (x : UInt8) (s : Bs) : prt c (x :: s) = if x = 47 then (if c = [] then prt [] s else tx c :: prt [] s) else prt (c ++ [x]) s := rfl
theorem prt_app : ∀ (a c b : Bs), ∃ A, prt c (a ++ 47 :: b) = A ++ prt [] b ∧ prt c (a ++ [47]) = A
  | [], c, b => by
    show ∃ A, prt c (47 :: b) = A ++ prt [] b ∧ prt c [47] = A
    rw [prt_cons c 47 b, prt_cons c 47 [], if_pos rfl, if_pos rfl]
    by_cases h : c = []
    · rw [if_pos h, if_pos h]; exact ⟨[], rfl, rfl⟩
    · rw [if_neg h, if_neg h]; exact ⟨[tx c], rfl, rfl⟩
  | x :: a, c, b => by
    show ∃ A, prt c (x :: (a ++ 47 :: b)) = A ++ prt [] b ∧ prt c (x :: (a ++ [47])) = A
    rw [prt_cons c x (a ++ 47 :: b), prt_cons c x (a ++ [47])]
    by_cases hx : x = 47
    · rw [if_pos hx, if_pos hx]
      obtain ⟨A, h1, h2⟩ := prt_app a [] b
      by_cases h : c = []
      · rw [if_pos h, if_pos h]; exact ⟨A, h1, h2⟩
      · rw [if_neg h, if_neg h]; exact ⟨tx c :: A, by rw [h1]; rfl, by rw [h2]⟩
    · rw [if_neg hx, if_neg hx]; exact prt_app a (c ++ [x]) b
/-- the parts of two texts of which the first one ends with a slash, or is empty -/
theorem prt_two (a b : Bs) (h : a = [] ∨ a.getLast? = some 47) : prt [] (a ++ b) = prt [] a ++ prt [] b := by
  rcases h with rfl | h
  · rfl
  · have hn : a ≠ [] := fun e => by rw [e] at h; cases h
    have e : a = a.dropLast ++ [47] := by
      have := List.dropLast_concat_getLast hn
      rw [List.getLast?_eq_some_getLast hn] at h
      rw [Option.some.inj h] at this; exact this.symm
    obtain ⟨A, h1, h2⟩ := prt_app a.dropLast [] b
    rw [e, List.append_assoc]
    show prt [] (a.dropLast ++ 47 :: b) = _
    rw [h1, h2]
theorem idle_end (k : Nat) : idle k = [] ∨ (idle k).getLast? = some 47 := by
  cases k with
  | zero => exact .inl rfl
  | succ k =>
    right
    unfold idle
    split <;> simp
theorem idle_parts : ∀ k, ∀ x ∈ prt [] (idle k), x = dot
  | 0 => by simp [idle, prt]
  | k + 1 => by
    have ih := idle_parts k
    intro x hx
    have e : prt [] (idle (k + 1)) = prt [] (idle k) ++ prt [] (if k % 2 = 0 then [46, 47] else [47]) := by
      show prt [] (idle k ++ _) = _
      exact prt_two _ _ (idle_end k)
    rw [e] at hx
    rcases List.mem_append.1 hx with h | h
    · exact ih x h
    · split at h
      · have : prt [] ([46, 47] : Bs) = [dot] := by decide +kernel
        rw [this] at h; simpa using h
      · have : prt [] ([47] : Bs) = [] := by decide +kernel
        rw [this] at h; simp at h
theorem idle_head : ∀ k, (idle k).head? = none ∨ (idle k).head? = some 46
  | 0 => .inl rfl
  | 1 => .inr rfl
  | k + 2 => by
    have ih := idle_head (k + 1)
    have hn : idle (k + 1) ≠ [] := by
      unfold idle
      split <;> simp
    right
    show (idle (k + 1) ++ _).head? = _
    rw [List.head?_append]
    rcases ih with h | h
    · rw [List.head?_eq_none_iff] at h; exact absurd h hn
    · rw [h]; rfl
theorem idle_mem : ∀ k, ∀ x ∈ idle k, x = 46 ∨ x = 47
  | 0 => by simp [idle]
  | k + 1 => by
    intro x hx
    have hx' : x ∈ idle k ++ (if k % 2 = 0 then [46, 47] else [47]) := hx
    rcases List.mem_append.1 hx' with h | h
    · exact idle_mem k x h
    · split at h
      · simpa using h
      · exact .inr (by simpa using h)
theorem idle_len : ∀ k, (idle k).length ≤ 2 * k
  | 0 => by simp [idle]
  | k + 1 => by
    have := idle_len k
    show (idle k ++ _).length ≤ _
    rw [List.length_append]
    split <;> simp <;> omega
theorem goP_dots {ns : List Nd} {g mk dr : Int} {follow dirs : Bool} {next : Nat → List ByteArray → Bool → Pl × Int} {d : Nat} (hd : Dr ns d) (l : List ByteArray) : ∀ D : List ByteArray, (∀ x ∈ D, x = dot) → goP ns ⟨0, g, mk, dr⟩ follow next dirs d (D ++ l) = goP ns ⟨0, g, mk, dr⟩ follow next dirs d l
  | [], _ => rfl
  | x :: D, h => by
    have hx := h x (by simp)
    show goP ns _ follow next dirs d (x :: (D ++ l)) = _
    rw [goP, if_neg (by rw [may_dir hd]; decide), if_neg (by rw [hx]; decide), if_pos hx]
    exact goP_dots hd l D (fun y hy => h y (by simp [hy]))
theorem idle_same {now : Int} {ns : List Nd} {g mk dr : Int} {s : ByteArray} {follow : Bool} (k : Nat) (hs : ¬ s.size = 0) (hb : begins s = false) (hl : (idle k).length + s.size ≤ 1024) :
    findA now ns ⟨0, g, mk, dr⟩ (tx (idle k) ++ s) follow = findA now ns ⟨0, g, mk, dr⟩ s follow := by
  unfold findA
  by_cases hso : someP now ns ⟨0, g, mk, dr⟩ = false
  · rw [if_pos hso, if_pos hso]
  rw [if_neg hso, if_neg hso]
  have hso' : someP now ns ⟨0, g, mk, dr⟩ = true := by simpa using hso
  obtain ⟨hck, d, hed, hdr⟩ := some_dir hso'
  simp only at hed
  subst hed
  have hbs : bs (tx (idle k) ++ s) = idle k ++ bs s := by
    show (tx (idle k) ++ s).data.toList = _
    rw [ByteArray.data_append, Array.toList_append]
    show bs (tx (idle k)) ++ bs s = _
    rw [bs_tx]
  have hsl : (bs s).length = s.size := rfl
  have hsn : bs s ≠ [] := fun e => hs (by rw [← hsl, e]; rfl)
  have hsz : (tx (idle k) ++ s).size = (idle k).length + s.size := by
    have : (bs (tx (idle k) ++ s)).length = (idle k).length + s.size := by rw [hbs, List.length_append, hsl]
    exact this
  have hb0 : hasB (tx (idle k) ++ s) 0 = hasB s 0 := by
    unfold hasB
    rw [hbs, decide_eq_decide, List.mem_append]
    refine ⟨fun h => h.elim (fun h => ?_) id, .inr⟩
    rcases idle_mem k 0 h with h | h <;> exact absurd h (by decide)
  have hbad : badP (tx (idle k) ++ s) = badP s := by
    unfold badP
    rw [hb0, hsz, decide_eq_false (show ¬ 1024 < (idle k).length + s.size by omega), decide_eq_false (show ¬ 1024 < s.size by omega)]
  have hbeg : begins (tx (idle k) ++ s) = false := by
    unfold begins
    rw [hbs, List.head?_append]
    rcases idle_head k with h | h
    · rw [h]; exact hb
    · rw [h]; rfl
  have hend : ends (tx (idle k) ++ s) = ends s := by
    unfold ends
    rw [hbs, getLast_app _ _ hsn]
  have hpar : partsP (tx (idle k) ++ s) = prt [] (idle k) ++ partsP s := by
    unfold partsP
    rw [hbs, prt_two _ _ (idle_end k)]
  unfold inPath
  rw [if_neg (show ¬ (tx (idle k) ++ s).size = 0 by omega), if_neg hs, hbad, hbeg, hb, hend, hpar]
  simp only [Bool.false_eq_true, if_false, Int.toNat_natCast]
  split
  · rfl
  · exact goP_dots hdr _ _ (idle_parts k)
end Go.Proofs.YthmoinagfooncaaDoor.Pt
