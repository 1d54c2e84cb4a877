/- Lists of texts that the Book is given. -/
import Derived.Test.YtpfdjnnnemkoiaaGreatDoorBookTF
import Derived.Test.YtpfdjnnnemkoiaaGreatDoorCuRowS
import Derived.Test.YtpfdjnnnemkoiaaGreatDoorTexts
namespace Go.Proofs.YtpfdjnnnemkoiaaGreatDoor.Cu
open Go.RowKit

theorem RowS.below {B : Nat} {v : Value} {xs : List Bs} {w w' : World} (h : RowS B v xs w) (hb : Below w.heap.size w w') : RowS B v xs w' :=
  h.kept (row := none) ⟨hb.os, hb.tape, hb.output, hb.size, fun k hk _ => hb.block k hk⟩ (by cases v.ownBlock <;> simp)
theorem tx_of_row {w : World} {B : Nat} {v : Value} {xs : List Bs} (h : RowS B v xs w) : ∃ a cap, v = .slice a xs.length cap ∧ Pa.Tx w a xs.length cap (xs.map bt) := by
  have h' : w.ownsRow B 9 1 v (xs.map bt).length ((xs.map bt).map Value.string) := by
    rw [List.length_map, List.map_map]; exact h
  obtain ⟨a, cap, h1, h2⟩ := Pa.tx_of_owns h'
  rw [List.length_map] at h1 h2
  exact ⟨a, cap, h1, h2⟩
theorem same_rows {b1 b2 : Nat} {v1 v2 : Value} {xs : List Bs} {w : World} (h1 : RowS b1 v1 xs w) (h2 : RowS b2 v2 xs w) (hn : xs.length ≤ 4611686018427387904) :
    Calls Tryz.prog 8 #[v1, v2] w fun e w' => e = .returned (.bool true) ∧ Below w.heap.size w w' := by
  obtain ⟨a1, c1, rfl, f1⟩ := tx_of_row h1
  obtain ⟨a2, c2, rfl, f2⟩ := tx_of_row h2
  exact Pa.sameTexts_any a1 a2 xs.length c1 c2 c1 c2 (xs.map bt) w hn f1 f2
/-- a row that was there, and one that lies above all that was there -/
theorem aloof {w w' : World} {B1 B2 : Nat} {v1 v2 : Value} {s1 s2 : List Bs} (h1 : RowS B1 v1 s1 w) (h2 : RowS B2 v2 s2 w') (h : w.heap.size ≤ B2) : ∀ k, v1.ownBlock = some k → v2.ownBlock = some k → False := by
  intro k k1 k2
  have := (Bk.own_block h1 k k1).1
  have := Bk.own_lo h2 k k2
  omega
theorem no_flags (B : Nat) (w : World) : Bk.Given B 72 2 [] w := ⟨(fun x hx => by simp at hx), List.Pairwise.nil⟩
theorem given_two {B : Nat} {L : List Bs} {a b : Value} {w : World} (ha : RowS B a L w) (hb : RowS B b L w) (hab : ∀ k, a.ownBlock = some k → b.ownBlock = some k → False) (hl : L.length ≤ 4194304) :
    Bk.Given B 9 1 [⟨a, 1, L.length, cellsS L⟩, ⟨b, 2, L.length, cellsS L⟩] w := by
  refine ⟨?_, ?_⟩
  · intro x hx
    simp only [List.mem_cons, List.not_mem_nil, or_false] at hx
    rcases hx with rfl | rfl
    · exact ⟨ha, by simp, hl⟩
    · exact ⟨hb, by simp, hl⟩
  · refine List.Pairwise.cons ?_ (List.Pairwise.cons ?_ List.Pairwise.nil)
    · intro x hx
      simp only [List.mem_cons, List.not_mem_nil, or_false] at hx
      subst hx
      exact hab
    · intro x hx
      cases hx
theorem given_three {B : Nat} {T L : List Bs} {t a b : Value} {w : World} (ht : RowS B t T w) (ha : RowS B a L w) (hb : RowS B b L w) (hta : ∀ k, t.ownBlock = some k → a.ownBlock = some k → False) (htb : ∀ k, t.ownBlock = some k → b.ownBlock = some k → False) (hab : ∀ k, a.ownBlock = some k → b.ownBlock = some k → False) (hT : T.length ≤ 4194304) (hl : L.length ≤ 4194304) :
    Bk.Given B 9 1 [⟨t, 1, T.length, cellsS T⟩, ⟨a, 2, L.length, cellsS L⟩, ⟨b, 3, L.length, cellsS L⟩] w := by
  refine ⟨?_, ?_⟩
  · intro x hx
    simp only [List.mem_cons, List.not_mem_nil, or_false] at hx
    rcases hx with rfl | rfl | rfl
    · exact ⟨ht, by simp, hT⟩
    · exact ⟨ha, by simp, hl⟩
    · exact ⟨hb, by simp, hl⟩
  · refine List.Pairwise.cons ?_ (List.Pairwise.cons ?_ (List.Pairwise.cons ?_ List.Pairwise.nil))
    · intro x hx
      simp only [List.mem_cons, List.not_mem_nil, or_false] at hx
      rcases hx with rfl | rfl
      · exact hta
      · exact htb
    · intro x hx
      simp only [List.mem_cons, List.not_mem_nil, or_false] at hx
      subst hx
      exact hab
    · intro x hx
      cases hx
end Go.Proofs.YtpfdjnnnemkoiaaGreatDoor.Cu
