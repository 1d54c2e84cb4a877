/- The blocks that are taken, one after the other, as the document takes them. -/
import Derived.Test.YtebnmjelelkcmaaBkFacts
set_option linter.unusedVariables false
namespace Go.Proofs.Ytebnmjelelkcmaa.Bk
open Go.RowKit Cu

theorem ch_drop (n : Nat) (hn : 1 ≤ n) : ∀ (k : Nat) (s : Bs), (ch n s).drop k = ch n (s.drop (k * n))
  | 0, s => by simp
  | k + 1, s => by
    by_cases h0 : s.length = 0
    · rw [List.eq_nil_of_length_eq_zero h0]; simp [ch_nil]
    · rw [ch_cons n hn s (by omega), List.drop_succ_cons, ch_drop n hn k (s.drop n), List.drop_drop, show n + k * n = (k + 1) * n from by rw [Nat.add_mul, Nat.one_mul]; omega]
theorem ch_get (n : Nat) (hn : 1 ≤ n) (k : Nat) (s : Bs) (h : k * n < s.length) : (ch n s)[k]? = some ((s.drop (k * n)).take n) := by
  have h1 := ch_drop n hn k s
  rw [ch_cons n hn (s.drop (k * n)) (by rw [List.length_drop]; omega)] at h1
  have := congrArg (fun l => l[0]?) h1
  simpa using this
theorem ch_full (n : Nat) (hn : 1 ≤ n) (k : Nat) (s : Bs) (h : s.length ≤ k * n) : (ch n s).take k = ch n s := by
  have h1 := ch_drop n hn k s
  rw [List.drop_eq_nil_of_le h, ch_nil] at h1
  exact List.take_of_length_le (List.drop_eq_nil_iff.1 h1)
def sel (n : Nat) (s : Bs) (sk ct : Int) (k : Nat) : List Bs := takeC ct (((ch n s).take k).drop sk.toNat)
theorem sel_zero (n : Nat) (s : Bs) (sk ct : Int) : sel n s sk ct 0 = [] := by unfold sel; simp [takeC_nil]
theorem sel_skip (n : Nat) (s : Bs) (sk ct : Int) (k : Nat) (h : (k : Int) < sk ∨ (0 ≤ sk ∧ 0 ≤ ct ∧ ct ≤ (k : Int) - sk)) : sel n s sk ct (k + 1) = sel n s sk ct k := by
  unfold sel
  rcases h with h | ⟨h0, h1, h2⟩
  · rw [List.drop_eq_nil_of_le (by rw [List.length_take]; omega), List.drop_eq_nil_of_le (by rw [List.length_take]; omega)]
  · unfold takeC
    rw [if_neg (by omega), if_neg (by omega), List.drop_take, List.drop_take, List.take_take, List.take_take, Nat.min_eq_left (by omega), Nat.min_eq_left (by omega)]
theorem sel_take (n : Nat) (hn : 1 ≤ n) (s : Bs) (sk ct : Int) (k : Nat) (hk : k * n < s.length) (h0 : 0 ≤ sk) (h : sk ≤ (k : Int)) (hc : ct < 0 ∨ (k : Int) - sk < ct) : sel n s sk ct (k + 1) = sel n s sk ct k ++ [(s.drop (k * n)).take n] := by
  have hg := ch_get n hn k s hk
  have hlt : k < (ch n s).length := (List.getElem?_eq_some_iff.1 hg).1
  have e1 : (ch n s).take (k + 1) = (ch n s).take k ++ [(s.drop (k * n)).take n] := by
    rw [List.take_add_one, hg]; rfl
  have hl : ((ch n s).take k).length = k := by rw [List.length_take]; omega
  unfold sel
  rw [e1, List.drop_append_of_le_length (by omega)]
  have hl2 : (((ch n s).take k).drop sk.toNat).length = k - sk.toNat := by rw [List.length_drop, hl]
  generalize ((ch n s).take k).drop sk.toNat = X at *
  unfold takeC
  by_cases hn : ct < 0
  · rw [if_pos hn, if_pos hn]
  · rw [if_neg hn, if_neg hn, List.take_of_length_le (l := X) (by omega), List.take_of_length_le (l := X ++ _) (by rw [List.length_append, hl2]; simp; omega)]
theorem sel_end (p : Pl) (s : Bs) (k : Nat) (h1 : 1 ≤ p.i) (h0 : 0 ≤ p.sk) (h : s.length ≤ k * p.i.toNat) : sel p.i.toNat s p.sk p.ct k = tkn p s := by
  unfold sel tkn
  rw [ch_full _ (by omega) _ _ h, ch_drop _ (by omega)]
  have : (p.sk * p.i).toNat = p.sk.toNat * p.i.toNat := by
    obtain ⟨a, ha⟩ : ∃ a : Nat, p.sk = a := ⟨p.sk.toNat, by omega⟩
    obtain ⟨b, hb⟩ : ∃ b : Nat, p.i = b := ⟨p.i.toNat, by omega⟩
    rw [ha, hb, ← Int.natCast_mul, Int.toNat_natCast, Int.toNat_natCast, Int.toNat_natCast]
  rw [this]
theorem sel_len (n : Nat) (s : Bs) (sk ct : Int) (k : Nat) : (sel n s sk ct k).length ≤ k := by
  unfold sel
  have h1 := takeC_len ct (((ch n s).take k).drop sk.toNat)
  rw [List.length_drop, List.length_take] at h1
  omega
theorem takeC_take {α : Type} (c : Int) (m : Nat) (l : List α) : takeC c (l.take m) = (takeC c l).take m := by
  unfold takeC
  split
  · rfl
  · rw [List.take_take, List.take_take, Nat.min_comm]
theorem sel_pre (p : Pl) (s : Bs) (k : Nat) (h1 : 1 ≤ p.i) (h0 : 0 ≤ p.sk) : sel p.i.toNat s p.sk p.ct k <+: tkn p s := by
  have h := sel_end p s (s.length) h1 h0 (by
    have : s.length * 1 ≤ s.length * p.i.toNat := Nat.mul_le_mul_left _ (by omega)
    omega)
  rw [← h]
  have hf := ch_full p.i.toNat (by omega) s.length s (by
    have : s.length * 1 ≤ s.length * p.i.toNat := Nat.mul_le_mul_left _ (by omega)
    omega)
  unfold sel
  rw [hf, List.drop_take, takeC_take]
  exact List.take_prefix _ _
theorem went_pre (p : Pl) {a b : List Bs} (h : a <+: b) : (went p a).length ≤ (went p b).length := by
  obtain ⟨r, rfl⟩ := h
  rw [went_app, List.length_append]
  omega
/-- answered early -/
theorem run_early (p : Pl) (s t : Bs) (k : Nat) (h : okP p = true) (hw : 1048576 < (went p (sel p.i.toNat s p.sk p.ct k)).length) : runP p s t = bad 3 := by
  obtain ⟨⟨g1, g2⟩, ⟨g3, g4⟩, ⟨g5, g6⟩, ⟨g7, g8⟩, g9⟩ := (okP_iff _).1 h
  have := went_pre p (sel_pre p s k g1 g5)
  unfold runP
  rw [if_neg (by rw [h]; simp)]
  split
  · rfl
  · rw [if_pos (by omega)]
theorem run_late (p : Pl) (s t : Bs) (k : Nat) (h : okP p = true) (hs : s.length ≤ 1048576) (ht : t.length ≤ 1048576) (hk : s.length ≤ k * p.i.toNat) :
    runP p s t = if 1048576 < (p.se * p.o).toNat + (went p (sel p.i.toNat s p.sk p.ct k)).length then bad 3 else ⟨putP p (went p (sel p.i.toNat s p.sk p.ct k)) t, whole p.i.toNat (sel p.i.toNat s p.sk p.ct k), parted p.i.toNat (sel p.i.toNat s p.sk p.ct k), (went p (sel p.i.toNat s p.sk p.ct k)).length / p.o.toNat, if (went p (sel p.i.toNat s p.sk p.ct k)).length % p.o.toNat = 0 then 0 else 1, 0⟩ := by
  obtain ⟨⟨g1, g2⟩, ⟨g3, g4⟩, ⟨g5, g6⟩, ⟨g7, g8⟩, g9⟩ := (okP_iff _).1 h
  rw [sel_end p s k g1 g5 hk]
  unfold runP
  rw [if_neg (by rw [h]; simp), if_neg (by omega)]
end Go.Proofs.Ytebnmjelelkcmaa.Bk
