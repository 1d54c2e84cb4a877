/- What whoOf, addSign and clauseChanges answer. -/
import Derived.Test.YtijknodbaddelaaGreatDoorMoRead
namespace Go.Proofs.YtijknodbaddelaaGreatDoor.Mo
open Go.RowKit Go.Shelf

theorem rne {r k : Int} (h : r ≠ k) : (r == k) = false := by simpa using h
set_option maxHeartbeats 400000 in
set_option maxRecDepth 100000 in
theorem whoOf_any (r : Int) (w : World) :
    Calls Tryz.prog 56 #[.int .i32 r] w fun e w' => e = .returned (.int .i64 (whoZ r)) ∧ w' = w := by
  go_enter Tryz.func56, Tryz.ntmps56
  go_wp2
  · rename_i h
    go_ret
    refine ⟨ret_i ?_, rfl⟩
    rw [whoZ, if_pos (eq_of_beq h)]
  · rename_i h1 h
    go_ret
    refine ⟨ret_i ?_, rfl⟩
    rw [whoZ, if_neg (ne_of_beq_false h1), if_pos (eq_of_beq h)]
  · rename_i h1 h2 h
    go_ret
    refine ⟨ret_i ?_, rfl⟩
    rw [whoZ, if_neg (ne_of_beq_false h1), if_neg (ne_of_beq_false h2), if_pos (eq_of_beq h)]
  · rename_i h1 h2 h3 h
    go_ret
    refine ⟨ret_i ?_, rfl⟩
    rw [whoZ, if_neg (ne_of_beq_false h1), if_neg (ne_of_beq_false h2), if_neg (ne_of_beq_false h3), if_pos (eq_of_beq h)]
  · rename_i h1 h2 h3 h
    go_ret
    refine ⟨ret_i ?_, rfl⟩
    rw [whoZ, if_neg (ne_of_beq_false h1), if_neg (ne_of_beq_false h2), if_neg (ne_of_beq_false h3), if_neg (ne_of_beq_false h)]
/-- what addSign leaves -/
def AddR (w : World) (g off : Nat) (ch : Ch) (r : Int) (e : Ending) (w' : World) : Prop :=
  (addP ch r = none ∧ e = .returned (.bool false) ∧ w' = w) ∨
  ∃ ch' j u, addP ch r = some ch' ∧ e = .returned (.bool true) ∧ j < 5 ∧ cc ch' = (cc ch).set j u ∧ w' = w.setCell ⟨g, off + j, none⟩ u
set_option maxHeartbeats 1000000 in
set_option maxRecDepth 100000 in
theorem addSign_any (g off : Nat) (ch : Ch) (r : Int) (w : World) (h : C5 w g off ch) (hf : ∀ o, w.frozen? ⟨g, o, none⟩ = false) :
    Calls Tryz.prog 55 #[.pointer (some ⟨g, off, none⟩), .int .i32 r] w (AddR w g off ch r) := by
  obtain ⟨who, op, bts, cp, dirs⟩ := ch
  have c2 := h.c2
  have c3 := h.c3
  have c4 := h.c4
  simp only at c2 c3 c4
  have f2 := hf (off + 2)
  have f3 := hf (off + 3)
  have f4 := hf (off + 4)
  clear h hf
  by_cases h0 : cp = 0
  · have hz : (((cp.toNat : Nat) : Int) == 0) = true := by rw [h0]; rfl
    have hcp : ¬ (cp ≠ 0) := by simpa using h0
    by_cases h1 : r = 114
    · subst h1
      have HR : Hid (addP ⟨who, op, bts, cp, dirs⟩ 114 = some ⟨who, op, bits .or .i64 bts 4, cp, dirs⟩) := by unfold addP; rw [if_neg hcp, if_pos rfl]; rfl
      clear hcp h0
      go_enter Tryz.func55, Tryz.ntmps55
      go_wp2_with fail
      go_ret
      exact .inr ⟨_, 2, .int .i64 (bits .or .i64 bts 4), unhide HR, rfl, by decide, rfl, rfl⟩
    · by_cases h2 : r = 119
      · subst h2
        have HR : Hid (addP ⟨who, op, bts, cp, dirs⟩ 119 = some ⟨who, op, bits .or .i64 bts 2, cp, dirs⟩) := by unfold addP; rw [if_neg hcp, if_neg (by decide), if_pos rfl]; rfl
        clear hcp h0 h1
        go_enter Tryz.func55, Tryz.ntmps55
        go_wp2_with fail
        go_ret
        exact .inr ⟨_, 2, .int .i64 (bits .or .i64 bts 2), unhide HR, rfl, by decide, rfl, rfl⟩
      · by_cases h3 : r = 120
        · subst h3
          have HR : Hid (addP ⟨who, op, bts, cp, dirs⟩ 120 = some ⟨who, op, bits .or .i64 bts 1, cp, dirs⟩) := by unfold addP; rw [if_neg hcp, if_neg (by decide), if_neg (by decide), if_pos rfl]; rfl
          clear hcp h0 h1 h2
          go_enter Tryz.func55, Tryz.ntmps55
          go_wp2_with fail
          go_ret
          exact .inr ⟨_, 2, .int .i64 (bits .or .i64 bts 1), unhide HR, rfl, by decide, rfl, rfl⟩
        · by_cases h4 : r = 88
          · subst h4
            have HR : Hid (addP ⟨who, op, bts, cp, dirs⟩ 88 = some ⟨who, op, bts, cp, true⟩) := by unfold addP; rw [if_neg hcp, if_neg (by decide), if_neg (by decide), if_neg (by decide), if_pos rfl]; rfl
            clear hcp h0 h1 h2 h3
            go_enter Tryz.func55, Tryz.ntmps55
            go_wp2_with fail
            go_ret
            exact .inr ⟨_, 4, .bool true, unhide HR, rfl, by decide, rfl, rfl⟩
          · by_cases k117 : r = 117
            · subst k117
              have HA : Hid (addP ⟨who, op, bts, cp, dirs⟩ 117 = if bts ≠ 0 ∨ dirs = true then none else some ⟨who, op, bts, 117, dirs⟩) := by unfold addP; rw [if_neg hcp, if_neg (by decide), if_neg (by decide), if_neg (by decide), if_neg (by decide), if_pos (by decide)]; rfl
              clear hcp h0 h1 h2 h3 h4
              by_cases hb : bts = 0
              · subst hb
                cases dirs
                · have HR : Hid (addP ⟨who, op, 0, cp, false⟩ 117 = some ⟨who, op, 0, 117, false⟩) := by show _ = _; rw [unhide HA, if_neg (by simp)]
                  clear HA
                  go_enter Tryz.func55, Tryz.ntmps55
                  go_wp2_with fail
                  go_ret
                  exact .inr ⟨_, 3, .int .u8 117, unhide HR, rfl, by decide, rfl, rfl⟩
                · have HR : Hid (addP ⟨who, op, 0, cp, true⟩ 117 = none) := by show _ = _; rw [unhide HA, if_pos (by simp)]
                  clear HA
                  go_enter Tryz.func55, Tryz.ntmps55
                  go_wp2_with fail
                  go_ret
                  exact .inl ⟨unhide HR, rfl, rfl⟩
              · have hb0 : (bts != 0) = true := by simpa using hb
                have HR : Hid (addP ⟨who, op, bts, cp, dirs⟩ 117 = none) := by show _ = _; rw [unhide HA, if_pos (.inl hb)]
                clear hb HA
                go_enter Tryz.func55, Tryz.ntmps55
                go_wp2_with fail
                go_ret
                exact .inl ⟨unhide HR, rfl, rfl⟩
            · by_cases k103 : r = 103
              · subst k103
                have HA : Hid (addP ⟨who, op, bts, cp, dirs⟩ 103 = if bts ≠ 0 ∨ dirs = true then none else some ⟨who, op, bts, 103, dirs⟩) := by unfold addP; rw [if_neg hcp, if_neg (by decide), if_neg (by decide), if_neg (by decide), if_neg (by decide), if_pos (by decide)]; rfl
                clear hcp h0 h1 h2 h3 h4 k117
                by_cases hb : bts = 0
                · subst hb
                  cases dirs
                  · have HR : Hid (addP ⟨who, op, 0, cp, false⟩ 103 = some ⟨who, op, 0, 103, false⟩) := by show _ = _; rw [unhide HA, if_neg (by simp)]
                    clear HA
                    go_enter Tryz.func55, Tryz.ntmps55
                    go_wp2_with fail
                    go_ret
                    exact .inr ⟨_, 3, .int .u8 103, unhide HR, rfl, by decide, rfl, rfl⟩
                  · have HR : Hid (addP ⟨who, op, 0, cp, true⟩ 103 = none) := by show _ = _; rw [unhide HA, if_pos (by simp)]
                    clear HA
                    go_enter Tryz.func55, Tryz.ntmps55
                    go_wp2_with fail
                    go_ret
                    exact .inl ⟨unhide HR, rfl, rfl⟩
                · have hb0 : (bts != 0) = true := by simpa using hb
                  have HR : Hid (addP ⟨who, op, bts, cp, dirs⟩ 103 = none) := by show _ = _; rw [unhide HA, if_pos (.inl hb)]
                  clear hb HA
                  go_enter Tryz.func55, Tryz.ntmps55
                  go_wp2_with fail
                  go_ret
                  exact .inl ⟨unhide HR, rfl, rfl⟩
              · by_cases k111 : r = 111
                · subst k111
                  have HA : Hid (addP ⟨who, op, bts, cp, dirs⟩ 111 = if bts ≠ 0 ∨ dirs = true then none else some ⟨who, op, bts, 111, dirs⟩) := by unfold addP; rw [if_neg hcp, if_neg (by decide), if_neg (by decide), if_neg (by decide), if_neg (by decide), if_pos (by decide)]; rfl
                  clear hcp h0 h1 h2 h3 h4 k117 k103
                  by_cases hb : bts = 0
                  · subst hb
                    cases dirs
                    · have HR : Hid (addP ⟨who, op, 0, cp, false⟩ 111 = some ⟨who, op, 0, 111, false⟩) := by show _ = _; rw [unhide HA, if_neg (by simp)]
                      clear HA
                      go_enter Tryz.func55, Tryz.ntmps55
                      go_wp2_with fail
                      go_ret
                      exact .inr ⟨_, 3, .int .u8 111, unhide HR, rfl, by decide, rfl, rfl⟩
                    · have HR : Hid (addP ⟨who, op, 0, cp, true⟩ 111 = none) := by show _ = _; rw [unhide HA, if_pos (by simp)]
                      clear HA
                      go_enter Tryz.func55, Tryz.ntmps55
                      go_wp2_with fail
                      go_ret
                      exact .inl ⟨unhide HR, rfl, rfl⟩
                  · have hb0 : (bts != 0) = true := by simpa using hb
                    have HR : Hid (addP ⟨who, op, bts, cp, dirs⟩ 111 = none) := by show _ = _; rw [unhide HA, if_pos (.inl hb)]
                    clear hb HA
                    go_enter Tryz.func55, Tryz.ntmps55
                    go_wp2_with fail
                    go_ret
                    exact .inl ⟨unhide HR, rfl, rfl⟩
                · have HR : Hid (addP ⟨who, op, bts, cp, dirs⟩ r = none) := by unfold addP; rw [if_neg hcp, if_neg h1, if_neg h2, if_neg h3, if_neg h4, if_neg (by simp [k117, k103, k111])]; rfl
                  replace h1 := rne h1
                  replace h2 := rne h2
                  replace h3 := rne h3
                  replace h4 := rne h4
                  replace k117 := rne k117
                  replace k103 := rne k103
                  replace k111 := rne k111
                  clear hcp h0
                  go_enter Tryz.func55, Tryz.ntmps55
                  go_wp2_with fail
                  go_ret
                  exact .inl ⟨unhide HR, rfl, rfl⟩
  · have hz : (((cp.toNat : Nat) : Int) == 0) = false := by
      have : ¬ cp = UInt8.ofNat 0 := h0
      simpa [← UInt8.toNat_inj] using this
    have HR : Hid (addP ⟨who, op, bts, cp, dirs⟩ r = none) := by unfold addP; rw [if_pos h0]; rfl
    clear h0
    go_enter Tryz.func55, Tryz.ntmps55
    go_wp2_with fail
    go_ret
    exact .inl ⟨unhide HR, rfl, rfl⟩
end Go.Proofs.YtijknodbaddelaaGreatDoor.Mo
