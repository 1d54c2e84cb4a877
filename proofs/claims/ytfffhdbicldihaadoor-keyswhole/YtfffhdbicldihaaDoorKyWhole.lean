/- Whole numbers, however told, compare as they should. -/
import Derived.Test.YtfffhdbicldihaaDoorKyTolds
import Derived.Test.YtfffhdbicldihaaDoorKyFacts
namespace Go.Proofs.YtfffhdbicldihaaDoor.Ky
open Go.RowKit

/-- what stands behind: nothing, or a byte that is no digit and no point -/
def Tail (E : Bs) : Prop := E = [] ∨ ∃ c t, E = c :: t ∧ dg c = false ∧ c ≠ 46
theorem ends_tail (k : Nat) (h : k ≠ 4) : Tail (ends k) := by
  unfold ends
  split
  · exact .inl rfl
  · exact .inr ⟨120, [], rfl, by decide, by decide⟩
  · exact .inr ⟨32, [57], rfl, by decide, by decide⟩
  · exact .inr ⟨45, [], rfl, by decide, by decide⟩
  · exact absurd rfl h
  · exact .inr ⟨10, [], rfl, by decide, by decide⟩
theorem unsigned_told {l E : Bs} (pt : Bool) (b : Nat) (hl : ∀ c ∈ l, dg c = true) (hE : Tail E) : unsigned (l ++ ((if pt = true then 46 :: nl b else []) ++ E)) = (noughts l, []) := by
  have hr : ((if pt = true then 46 :: nl b else []) ++ E) = [] ∨ ∃ c t, ((if pt = true then 46 :: nl b else []) ++ E) = c :: t ∧ dg c = false := by
    cases pt
    · rcases hE with rfl | ⟨c, t, rfl, h1, _⟩
      · exact .inl rfl
      · exact .inr ⟨c, t, rfl, h1⟩
    · exact .inr ⟨46, nl b ++ E, rfl, by decide⟩
  obtain ⟨t1, t2⟩ := take_run hl hr
  unfold unsigned
  rw [t1, t2]
  congr 1
  cases pt
  · rcases hE with rfl | ⟨c, t, rfl, _, h2⟩
    · rfl
    · have e : (if false = true then 46 :: nl b else []) ++ c :: t = c :: t := rfl
      rw [e]
      split
      · rename_i q; exact absurd (List.cons.inj q).1 h2
      · rfl
  · have e : (if true = true then 46 :: nl b else []) ++ E = 46 :: (nl b ++ E) := rfl
    rw [e]
    show behind ((nl b ++ E).takeWhile dg) = []
    have hE2 : E = [] ∨ ∃ c t, E = c :: t ∧ dg c = false := by
      rcases hE with rfl | ⟨c, t, rfl, h1, _⟩
      · exact .inl rfl
      · exact .inr ⟨c, t, rfl, h1⟩
    rw [(take_run (nl_dg b) hE2).1, behind_nl]
theorem bks_drop (k : Nat) (c : UInt8) (r : Bs) (h : bl c = false) : (bks k ++ c :: r).dropWhile bl = c :: r := by
  induction k with
  | zero => simp [bks, h]
  | succ k ih => unfold bks at *; rw [List.replicate_succ, List.cons_append, List.dropWhile_cons, if_pos (by decide)]; exact ih
theorem digs_head (a : Nat) (n : Nat) : ∃ c r, nl a ++ dec n = c :: r ∧ dg c = true := by
  have hd : ∀ c ∈ nl a ++ dec n, dg c = true := fun c hc => by
    rcases List.mem_append.1 hc with h | h
    · exact nl_dg a c h
    · exact dec_dg n c h
  cases h : nl a ++ dec n with
  | nil =>
    have h2 := dec_len n
    rw [(List.append_eq_nil_iff.1 h).2] at h2
    simp at h2
  | cons c r => exact ⟨c, r, rfl, hd c (by rw [h]; simp)⟩
theorem dg_not {c : UInt8} (h : dg c = true) : bl c = false ∧ c ≠ 45 := by
  have : ∀ n, n < 256 → dg (UInt8.ofNat n) = true → bl (UInt8.ofNat n) = false ∧ UInt8.ofNat n ≠ 45 := by decide +kernel
  have q := this c.toNat c.toNat_lt
  rw [UInt8.ofNat_toNat] at q
  exact q h
theorem whole_nil (n : Nat) : whole n = [] ↔ n = 0 := by
  unfold whole
  constructor
  · intro h
    by_cases h0 : n = 0
    · exact h0
    · rw [if_neg h0] at h
      have := dec_len n
      rw [h] at this; simp at this
  · intro h; rw [if_pos h]
theorem dec_told (n : Int) (x : Drs) (h : x.en.toNat % 6 ≠ 4) : decOf (told n x) = ⟨if n = 0 then 0 else if n < 0 then -1 else 1, whole n.natAbs, []⟩ := by
  have hT := ends_tail _ h
  have hd : ∀ c ∈ nl (x.ah.toNat % 30) ++ dec n.natAbs, dg c = true := fun c hc => by
    rcases List.mem_append.1 hc with h | h
    · exact nl_dg _ c h
    · exact dec_dg _ c h
  have hu := unsigned_told x.pt (x.bh.toNat % 30) hd hT
  rw [noughts_nl, noughts_dec] at hu
  unfold told
  by_cases hn : n < 0
  · have e : ((bks (x.bk.toNat % 5) ++ ((if n < 0 then [45] else []) ++ (nl (x.ah.toNat % 30) ++ dec n.natAbs))) ++ (if x.pt = true then 46 :: nl (x.bh.toNat % 30) else [])) ++ ends (x.en.toNat % 6) = bks (x.bk.toNat % 5) ++ 45 :: ((nl (x.ah.toNat % 30) ++ dec n.natAbs) ++ ((if x.pt = true then 46 :: nl (x.bh.toNat % 30) else []) ++ ends (x.en.toNat % 6))) := by
      rw [if_pos hn]; simp
    rw [e, decOf_minus (bks_drop _ 45 _ (by decide)), hu]
    simp only [and_true, whole_nil]
    rw [if_neg (show ¬ n.natAbs = 0 by omega), if_neg (show ¬ n = 0 by omega), if_pos hn]
  · obtain ⟨c, r, e1, hc⟩ := digs_head (x.ah.toNat % 30) n.natAbs
    have e : ((bks (x.bk.toNat % 5) ++ ((if n < 0 then [45] else []) ++ (nl (x.ah.toNat % 30) ++ dec n.natAbs))) ++ (if x.pt = true then 46 :: nl (x.bh.toNat % 30) else [])) ++ ends (x.en.toNat % 6) = bks (x.bk.toNat % 5) ++ ((nl (x.ah.toNat % 30) ++ dec n.natAbs) ++ ((if x.pt = true then 46 :: nl (x.bh.toNat % 30) else []) ++ ends (x.en.toNat % 6))) := by
      rw [if_neg hn]; simp
    rw [e]
    rw [e1, List.cons_append] at hu ⊢
    rw [decOf_plain (bks_drop _ c _ (dg_not hc).1) (dg_not hc).2, hu]
    simp only [and_true, whole_nil]
    by_cases h0 : n = 0
    · rw [if_pos (show n.natAbs = 0 by omega), if_pos h0]
    · rw [if_neg (show ¬ n.natAbs = 0 by omega), if_neg h0, if_neg hn]
theorem cmpU_whole (a b : Nat) (s t : Int) : cmpU ⟨s, whole a, []⟩ ⟨t, whole b, []⟩ = cmpI a b := by
  rw [← cmp_whole]
  unfold cmpU lex cmpW
  simp only [cmpL]
  split
  · rename_i h
    split
    · rename_i h2; exact h2.symm
    · rfl
  · rfl
theorem number_told (n m : Int) (x y : Drs) (hx : x.en.toNat % 6 ≠ 4) (hy : y.en.toNat % 6 ≠ 4) : number (told n x) (told m y) = cmpI n m := by
  unfold number
  rw [dec_told n x hx, dec_told m y hy]
  unfold cmpD
  rw [cmpU_whole]
  simp only
  unfold cmpI
  repeat' split
  all_goals omega
theorem told_len (n : Int) (x : Drs) (hn : -2147483648 ≤ n ∧ n ≤ 2147483647) : (told n x).length ≤ 200 := by
  have h1 : (dec n.natAbs).length ≤ 20 := dec_short 19 _ (by omega)
  have hnl : ∀ k, (nl k).length = k := fun k => List.length_replicate
  have hbk : ∀ k, (bks k).length = k := fun k => List.length_replicate
  have he : (ends (x.en.toNat % 6)).length ≤ 3 := by unfold ends; split <;> simp
  have h2 : (if n < 0 then [45] else [] : Bs).length ≤ 1 := by split <;> simp
  have h3 : (if x.pt = true then 46 :: nl (x.bh.toNat % 30) else []).length ≤ 31 := by
    split
    · rw [List.length_cons, hnl]; omega
    · simp
  unfold told
  rw [List.length_append, List.length_append, List.length_append, List.length_append, List.length_append, hnl, hbk]
  omega
end Go.Proofs.YtfffhdbicldihaaDoor.Ky
