/- The walk of CutsAll. -/
import Derived.Test.YtpfdjnnnemkoiaaDoorCuAlive
import Derived.Test.YtpfdjnnnemkoiaaDoorBeyond
import Derived.Deep.RegionHeld3
namespace Go.Proofs.YtpfdjnnnemkoiaaDoor.Cu
open Go.RowKit Go.Shelf
open Ls (R Rg has)

theorem inL_all (k : Nat) (h : 1 ≤ k) : inL [(1, 0)] k = true := by simp [inL, has, Ls.inR]; omega
theorem inL_none (k : Nat) : inL [] k = false := rfl
theorem pick_all {α : Type} (xs : List α) : ∀ k, pick (inL [(1, 0)]) k xs = xs := by
  induction xs with
  | nil => intro k; rfl
  | cons x r ih => intro k; rw [pick, if_pos (inL_all (k + 1) (by omega)), ih]
theorem pick_none {α : Type} (xs : List α) : ∀ k, pick (inL []) k xs = [] := by
  induction xs with
  | nil => intro k; rfl
  | cons x r ih => intro k; rw [pick, if_neg (by rw [inL_none]; simp), ih]
theorem jn_fcut (sep : UInt8) (s : Bs) : jn sep (fcut sep s) = s := by
  induction s with
  | nil => simp [fcut, jn, Lib.join_one]
  | cons c s ih =>
    rw [fcut]
    split
    · rename_i h
      cases hf : fcut sep s with
      | nil => have := (fcut_sum sep s).2; rw [hf] at this; simp at this
      | cons x r =>
        rw [hf] at ih
        rw [jn, Lib.join_cons] at ih ⊢
        simp [Lib.joinTail] at ih ⊢
        rw [ih, h]; simp
    · cases hf : fcut sep s with
      | nil => have := (fcut_sum sep s).2; rw [hf] at this; simp at this
      | cons x r =>
        rw [hf] at ih
        rw [jn, Lib.join_cons] at ih ⊢
        rw [List.cons_append, ih]
theorem fa_all (s : ByteArray) (sep : UInt8) : faAns s [(1, 0)] sep false = .tuple #[.string s, .bool true] := by
  unfold faAns
  split
  · unfold fpick; rw [pick_all, jn_fcut]; rfl
  · rfl
theorem fa_none (s : ByteArray) (sep : UInt8) : ∃ b, faAns s [] sep true = .tuple #[.string { data := #[] }, .bool b] := by
  unfold faAns
  split
  · exact ⟨true, by unfold fpick; rw [pick_none]; rfl⟩
  · exact ⟨false, rfl⟩

set_option maxHeartbeats 2000000 in
set_option maxRecDepth 100000 in
theorem all_walk (s : ByteArray) (sep : UInt8) (bare : Bool) (w : World) (hs : s.size ≤ 4611686018427387904) (ht : Tab w) :
    Calls Tryd.prog 4 #[.agg #[.string s, .int .u8 sep.toNat, .bool bare]] w fun e w' => e = .returned (.bool true) ∧ Below w.heap.size w w' := by
  have HT := hide ht
  clear ht
  obtain ⟨w0, hw0⟩ : ∃ w0, w0 = w.alloc (.cells #[.string s, .int .u8 sep.toNat, .bool bare] 46) := ⟨_, rfl⟩
  have hB0 : Below w.heap.size w w0 := by rw [hw0]; exact (Below.refl _ w).alloc (Nat.le_refl _) _
  have hX : Hid (∀ W, Below w0.heap.size w0 W → W.cell? ⟨w.heap.size, 0, none⟩ = some (.string s) ∧ W.cell? ⟨w.heap.size, 1, none⟩ = some (.int .u8 sep.toNat) ∧ W.cell? ⟨w.heap.size, 2, none⟩ = some (.bool bare)) := fun W hW => by
    have hlt : w.heap.size < w0.heap.size := by rw [hw0]; simp
    refine ⟨(hW.cell hlt).trans ?_, (hW.cell hlt).trans ?_, (hW.cell hlt).trans ?_⟩ <;> rw [hw0, cell_of_row _ _ _ _ _ _ (heap_alloc_new w _)] <;> rfl
  have A1 := hide (alive_any w0 ((unhide HT).below hB0))
  go_enter Tryd.func4, Tryd.ntmps4
  go_wp2_with fail
  rw [← hw0]
  refine (unhide A1).mono ?_
  rintro e w1 ⟨rfl, hB1⟩
  clear A1 hw0
  have hB1' : Below w.heap.size w w1 := hB0.trans (hB1.mono hB0.size)
  obtain ⟨x1, x2, x3⟩ := unhide hX w1 hB1
  go_wp2_with fail
  refine (Beyond.beyond_one (s.size : Int) w1.heap.size _ (by simp) (by omega) (by omega)).mono ?_
  rintro e w2 ⟨rfl, hw2⟩
  have hA2 : Below w1.heap.size w1 w2 := by rw [hw2]; exact (Below.refl _ w1).alloc (Nat.le_refl _) _
  have hB02 : Below w0.heap.size w0 w2 := hB1.trans (hA2.mono hB1.size)
  have hB2 : Below w.heap.size w w2 := hB1'.trans (hA2.mono hB1'.size)
  clear hw2 x1 x2 x3 hA2 hB1 hB1'
  by_cases hb : (1048576 : Int) < (s.size : Int)
  · rw [decide_eq_true hb]
    have A2 := hide (alive_any w2 ((unhide HT).below hB2))
    go_wp2_with fail
    refine (unhide A2).mono ?_
    rintro e w3 ⟨rfl, hB3⟩
    have hB3' : Below w.heap.size w w3 := hB2.trans (hB3.mono hB2.size)
    clear A2
    go_wp2_with fail
    go_ret
    exact ⟨rfl, hB3'⟩
  · rw [decide_eq_false hb]
    obtain ⟨w3, hw3⟩ : ∃ w3, w3 = w2.alloc (.cells #[.int .i64 1, .int .i64 0] 48) := ⟨_, rfl⟩
    have hA3 : Below w2.heap.size w2 w3 := by rw [hw3]; exact (Below.refl _ w2).alloc (Nat.le_refl _) _
    have hB03 : Below w0.heap.size w0 w3 := hB02.trans (hA3.mono hB02.size)
    have hB3 : Below w.heap.size w w3 := hB2.trans (hA3.mono hB2.size)
    have hR3 : Hid (Rg w3 (some ⟨w2.heap.size, 0, none⟩) 1 1 [(1, 0)]) := by rw [hw3]; exact Ls.rg_lit w2 [(1, 0)] 48
    have F1 := hide (fields_any s (some ⟨w2.heap.size, 0, none⟩) 1 1 1 [(1, 0)] sep false w3 (unhide hR3) (by omega) (by omega))
    rw [fa_all] at F1
    obtain ⟨x1, x2, x3⟩ := unhide hX w3 hB03
    rw [hw3] at x1 x2 x3
    go_wp2_with fail
    rw [← hw3]
    refine (unhide F1).mono ?_
    rintro e w4 ⟨rfl, hB4⟩
    have hB04 : Below w0.heap.size w0 w4 := hB03.trans (hB4.mono hB03.size)
    have hB4' : Below w.heap.size w w4 := hB3.trans (hB4.mono hB3.size)
    have hR4 := hide ((unhide hR3).below hB4)
    clear F1 x1 x2 x3 hw3 hA3 hB4 hB3 hB03 hR3 hB02 hB2
    obtain ⟨bb, hfn⟩ := fa_none s sep
    have F2 := hide (fields_any s none 0 0 0 [] sep true w4 (Ls.rg_nil w4) (by omega) (by omega))
    rw [hfn] at F2
    obtain ⟨x1, x2, x3⟩ := unhide hX w4 hB04
    clear hfn
    go_wp2_with fail
    refine (unhide F2).mono ?_
    rintro e w5 ⟨rfl, hB5⟩
    have hB05 : Below w0.heap.size w0 w5 := hB04.trans (hB5.mono hB04.size)
    have hB5' : Below w.heap.size w w5 := hB4'.trans (hB5.mono hB4'.size)
    have hR5 := hide ((unhide hR4).below hB5)
    clear F2 x1 x2 x3 hB5 hB4' hB04 hR4
    obtain ⟨x1, x2, x3⟩ := unhide hX w5 hB05
    have hlt5 : w.heap.size < w5.heap.size := by
      rcases Nat.lt_or_ge w.heap.size w5.heap.size with h | h
      · exact h
      · exfalso; unfold World.cell? at x1; simp [Array.getElem?_eq_none h] at x1
    have K3 : Hid (∀ W', (W'.cell? ⟨w.heap.size, 0, none⟩ = some (.string s) ∧ Below w5.heap.size w5 W') → Calls Tryd.prog 13 #[.string s, .slice (some ⟨w2.heap.size, 0, none⟩) 1 1] W' fun e w' => e = .returned (.string s) ∧ (w'.cell? ⟨w.heap.size, 0, none⟩ = some (.string s) ∧ Below w5.heap.size w5 w')) := fun W' h => by
      have F3 := bytes_any s (some ⟨w2.heap.size, 0, none⟩) 1 1 1 [(1, 0)] W' ((unhide hR5).below h.2) (by omega) (by omega)
      rw [pick_all, show bt (bs s) = s from rfl] at F3
      exact F3.mono fun e w' h2 => ⟨h2.1, (h2.2.cell (p := ⟨w.heap.size, 0, none⟩) (Nat.lt_of_lt_of_le hlt5 h.2.size)).trans h.1, h.2.trans (h2.2.mono h.2.size)⟩
    have K4 : Hid (∀ W', (W'.cell? ⟨w.heap.size, 0, none⟩ = some (.string s) ∧ Below w5.heap.size w5 W') → Calls Tryd.prog 13 #[.string s, .slice none 0 0] W' fun e w' => e = .returned (.string { data := #[] }) ∧ (w'.cell? ⟨w.heap.size, 0, none⟩ = some (.string s) ∧ Below w5.heap.size w5 w')) := fun W' h => by
      have F4 := bytes_any s none 0 0 0 [] W' (Ls.rg_nil W') (by omega) (by omega)
      rw [pick_none] at F4
      exact F4.mono fun e w' h2 => ⟨h2.1, (h2.2.cell (p := ⟨w.heap.size, 0, none⟩) (Nat.lt_of_lt_of_le hlt5 h.2.size)).trans h.1, h.2.trans (h2.2.mono h.2.size)⟩
    have hS0 : w5.cell? ⟨w.heap.size, 0, none⟩ = some (.string s) ∧ Below w5.heap.size w5 w5 := ⟨x1, Below.refl _ _⟩
    have hBd : Below w5.heap.size w5 w5.drew := (Below.refl _ _).drew
    clear x2 x3 hR5 hS0
    go_wp2_with fail
    go_region_held3 (fun w' => w'.cell? ⟨w.heap.size, 0, none⟩ = some (.string s) ∧ Below w5.heap.size w5 w') (first | assumption | go_keep)
      (first | (with_reducible refine (unhide K3 _ (by assumption)).mono ?_; rintro e w' ⟨rfl, hS1⟩) | (with_reducible refine (unhide K4 _ (by assumption)).mono ?_; rintro e w' ⟨rfl, hS2⟩))
    go_wp2_with fail
    go_ret
    exact ⟨rfl, hB5'.trans ((by assumption : w'.cell? ⟨w.heap.size, 0, none⟩ = some (.string s) ∧ Below w5.heap.size w5 w').2.mono hB5'.size)⟩
end Go.Proofs.YtpfdjnnnemkoiaaDoor.Cu
