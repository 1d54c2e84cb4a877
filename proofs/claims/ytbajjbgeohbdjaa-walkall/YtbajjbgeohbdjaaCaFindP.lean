/- What is known of where a path leads, in a tree that may be. -/
import Derived.Test.YtbajjbgeohbdjaaPtFind
import Derived.Test.YtbajjbgeohbdjaaTrStatW
namespace Go.Proofs.Ytbajjbgeohbdjaa.Ca
open Go.RowKit Go.Proofs.Ytbajjbgeohbdjaa.Cu Go.Proofs.Ytbajjbgeohbdjaa.Tr Go.Proofs.Ytbajjbgeohbdjaa.Pm Go.Proofs.Ytbajjbgeohbdjaa.Pt

/-- a part of a path: neither a slash nor a byte 0 in it, and it is not empty -/
def Part (s : ByteArray) : Prop := 1 ≤ s.size ∧ hasB s 0 = false ∧ hasB s 47 = false
theorem part_tx {c : Bs} (h : c ≠ []) (hc : ∀ x ∈ c, x ≠ 0 ∧ x ≠ 47) : Part (tx c) := by
  refine ⟨?_, ?_, ?_⟩
  · have : (tx c).size = c.length := by simp [tx, ByteArray.size]
    rw [this]
    exact List.length_pos_iff.2 h
  · unfold hasB; rw [bs_tx]; exact decide_eq_false fun q => (hc _ q).1 rfl
  · unfold hasB; rw [bs_tx]; exact decide_eq_false fun q => (hc _ q).2 rfl
theorem prt_part : ∀ (s c : Bs), (∀ x ∈ c, x ≠ 0 ∧ x ≠ 47) → (∀ x ∈ s, x ≠ 0) → ∀ p ∈ prt c s, Part p
  | [], c, hc, _, p, hp => by
    unfold prt at hp
    split at hp
    · cases hp
    · simp at hp; subst hp; exact part_tx ‹_› hc
  | x :: s, c, hc, hs, p, hp => by
    have hs' : ∀ y ∈ s, y ≠ 0 := fun y hy => hs y (List.mem_cons_of_mem _ hy)
    unfold prt at hp
    split at hp
    · split at hp
      · exact prt_part s [] (by simp) hs' p hp
      · rcases List.mem_cons.1 hp with rfl | hp
        · exact part_tx ‹_› hc
        · exact prt_part s [] (by simp) hs' p hp
    · rename_i hx
      refine prt_part s (c ++ [x]) (fun y hy => ?_) hs' p hp
      rcases List.mem_append.1 hy with hy | hy
      · exact hc y hy
      · simp at hy; subst hy; exact ⟨hs y (List.mem_cons_self ..), hx⟩
theorem parts_part {s : ByteArray} (h : hasB s 0 = false) : ∀ p ∈ partsP s, Part p :=
  prt_part (bs s) [] (by simp) fun x hx e => by
    subst e
    unfold hasB at h
    exact of_decide_eq_false h hx
/-- a place of a tree: in a directory; nameless, or by a name that it has, or could have -/
structure Okp (ns : List Nd) (p : Pl) : Prop where
  dir : ∃ d : Nat, p.dir = (d : Int) ∧ Dr ns d
  what : (p.name = ⟨#[]⟩ ∧ p.node = p.dir) ∨ (nameP p.name = true ∧ p.node = findP (nd ns p.dir.toNat).list p.name)
theorem Okp.node {now : Int} {ns : List Nd} {p : Pl} (hc : checkP now ns = true) (h : Okp ns p) : ∃ m : Nat, p.node = (m : Int) ∧ m < ns.length ∧ (m = 0 ∨ (nd ns m).kind ≠ 0) := by
  obtain ⟨d, hd, hdr⟩ := h.dir
  rcases h.what with ⟨_, h2⟩ | ⟨_, h2⟩
  · exact ⟨d, h2.trans hd, hdr.2.1, .inr (by rw [hdr.2.2]; decide)⟩
  · rw [hd, Int.toNat_natCast] at h2
    rcases dr_find hc hdr p.name with h5 | ⟨m, h5, hm1, hmn, hk⟩
    · have := (checkP_parts hc).1
      exact ⟨0, h2.trans h5, by omega, .inl rfl⟩
    · refine ⟨m, h2.trans h5, hmn, .inr ?_⟩
      rcases hk with hk | hk | ⟨hk, _⟩ <;> rw [hk] <;> decide
theorem okp_named {now : Int} {ns : List Nd} {d : Nat} (_hc : checkP now ns = true) (hd : Dr ns d) {s : ByteArray} (hp : Part s) (h64 : s.size ≤ 64) (h3 : dotsP s = false) (m : Int) (hm : m = findP (nd ns d).list s) (b : Bool) : Okp ns ⟨d, s, m, b⟩ := by
  refine ⟨⟨d, rfl, hd⟩, .inr ⟨?_, by simpa using hm⟩⟩
  unfold dotsP at h3
  simp only [Bool.or_eq_false_iff, decide_eq_false_iff_not] at h3
  simp [nameP, hp.1, h64, h3.1, h3.2, hp.2.1, hp.2.2]
theorem take_find {ns : List Nd} {e : Ev} {d : Nat} {s : ByteArray} {m : Int} (h : takeP ns e d s = (m, 0)) (h3 : dotsP s = false) : s.size ≤ 64 ∧ m = findP (nd ns d).list s := by
  unfold dotsP at h3
  simp only [Bool.or_eq_false_iff, decide_eq_false_iff_not] at h3
  unfold takeP at h
  split at h
  · injection h with _ h; cases h
  split at h
  · injection h with _ h; cases h
  rw [if_neg h3.1, if_neg h3.2] at h
  injection h with h
  exact ⟨by omega, h.symm⟩
theorem bad_no {k : Int} (hk : k ≠ 0) {P : Prop} (h : (bad k).2 = 0) : P := absurd h hk
theorem goP_ok {now : Int} {ns : List Nd} {e : Ev} {f : Bool} {next : Nat → List ByteArray → Bool → Pl × Int} (hc : checkP now ns = true) (hnext : ∀ d l b, Dr ns d → (∀ p ∈ l, Part p) → (next d l b).2 = 0 → Okp ns (next d l b).1) (dirs : Bool) : ∀ (l : List ByteArray) (d : Nat), Dr ns d → (∀ p ∈ l, Part p) → (goP ns e f next dirs d l).2 = 0 → Okp ns (goP ns e f next dirs d l).1
  | [], d, hd, _, _ => ⟨⟨d, rfl, hd⟩, .inl ⟨rfl, rfl⟩⟩
  | s :: l, d, hd, hl, h => by
    have hs := hl s (List.mem_cons_self ..)
    have hl' : ∀ p ∈ l, Part p := fun p hp => hl p (List.mem_cons_of_mem _ hp)
    rcases goP_cases (e := e) (follow := f) (next := next) (dirs := dirs) (s := s) (l := l) hc hd with ⟨k, hk, _, hg⟩ | ⟨x, _, hx, _, hg⟩ | ⟨ht, h3, hg⟩ | ⟨m, ht, hm, h3, hk⟩
    · rw [hg] at h
      exact bad_no (by omega) h
    · rw [hg] at h ⊢
      exact goP_ok hc hnext dirs l x hx hl' h
    · obtain ⟨h64, hf⟩ := take_find ht h3
      rw [hg] at h ⊢
      split at h
      · rw [if_pos ‹_›]; exact okp_named hc hd hs h64 h3 0 hf dirs
      · exact bad_no (by decide) h
    · obtain ⟨h64, hf⟩ := take_find ht h3
      have hn : Okp ns ⟨d, s, m, dirs⟩ := okp_named hc hd hs h64 h3 m hf dirs
      rcases hk with ⟨_, hg⟩ | ⟨_, hx, hg⟩ | ⟨_, htg, hg⟩
      · rw [hg] at h ⊢
        split at h
        · exact bad_no (by decide) h
        · rw [if_neg ‹_›]; exact hn
      · rw [hg] at h ⊢
        split at h
        · rw [if_pos ‹_›]; exact hn
        · rw [if_neg ‹_›]; exact goP_ok hc hnext dirs l m hx hl' h
      · rw [hg] at h ⊢
        split at h
        · rw [if_pos ‹_›]
          refine hnext _ _ _ (by split; exact dr_root hc; exact hd) (fun p hp => ?_) h
          rcases List.mem_append.1 hp with hp | hp
          · refine parts_part ?_ p hp
            unfold targetP at htg
            simp only [Bool.and_eq_true, Bool.not_eq_true'] at htg
            exact htg.2
          · exact hl' p hp
        · rw [if_neg ‹_›]; exact hn
theorem leadP_ok {now : Int} {ns : List Nd} {e : Ev} {f : Bool} (hc : checkP now ns = true) : ∀ (h d : Nat) (l : List ByteArray) (b : Bool), Dr ns d → (∀ p ∈ l, Part p) → (leadP ns e f h d l b).2 = 0 → Okp ns (leadP ns e f h d l b).1
  | 0, _, _, _, _, _, q => bad_no (by decide) q
  | h + 1, d, l, b, hd, hl, q => goP_ok hc (fun d' l' b' => leadP_ok hc h d' l' b') b l d hd hl q
theorem find_ok {now : Int} {ns : List Nd} {e : Ev} {s : ByteArray} {f : Bool} (h : (findA now ns e s f).2 = 0) : Okp ns (findA now ns e s f).1 := by
  unfold findA at h ⊢
  cases hq : someP now ns e with
  | false => rw [hq] at h; exact bad_no (by decide) h
  | true =>
    obtain ⟨hck, d, hed, hdr⟩ := some_dir hq
    rw [if_neg (by rw [hq]; decide)] at h
    rw [if_neg (by decide)]
    unfold inPath at h ⊢
    split at h
    · exact bad_no (by decide) h
    rw [if_neg ‹_›]
    split at h
    · exact bad_no (by decide) h
    rename_i hb
    rw [if_neg hb]
    have h0 : hasB s 0 = false := by
      simp only [badP, Bool.or_eq_true, not_or, Bool.not_eq_true] at hb
      exact hb.2
    refine leadP_ok hck 17 _ _ _ ?_ (parts_part h0) h
    split
    · exact dr_root hck
    · rw [hed, Int.toNat_natCast]; exact hdr
end Go.Proofs.Ytbajjbgeohbdjaa.Ca
