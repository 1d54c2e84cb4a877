/- What the document's up answers. -/
import Derived.Test.YthmoinagfooncaaGreatDoorTrComp
import Derived.Test.YthmoinagfooncaaGreatDoorTrTells
namespace Go.Proofs.YthmoinagfooncaaGreatDoor.Tr
open Go.RowKit Go.Proofs.YthmoinagfooncaaGreatDoor.Cu

/-- how many directories one is within, from place i on, k of them behind -/
def upG (ns : List Nd) : Nat → Int → Nat → Int
  | 0, _, _ => -1
  | f + 1, i, k => if i = 1 then (k : Int) else if i < 1 ∨ (ns.length : Int) ≤ i ∨ (nd ns i.toNat).kind ≠ 2 then -1 else upG ns f (nd ns i.toNat).parent (k + 1)
theorem upG_of {ns : List Nd} : ∀ {s x : Nat}, Up ns s x → ∀ f k, s < f → upG ns f (x : Int) k = ((k + s : Nat) : Int) := by
  intro s x h
  induction h with
  | root =>
    intro f k hf
    cases f with
    | zero => omega
    | succ f => simp [upG]
  | @step s x p a b c d _ ih =>
    intro f k hf
    cases f with
    | zero => omega
    | succ f =>
      have e1 : ¬ (x : Int) = 1 := by omega
      simp only [upG, if_neg e1, Int.toNat_natCast]
      rw [if_neg (by
        intro h
        rcases h with h | h | h
        · omega
        · omega
        · exact h c), d, ih f (k + 1) (by omega)]
      congr 1; omega
theorem up_of {ns : List Nd} : ∀ (f : Nat) (i : Int) (k : Nat), 0 ≤ upG ns f i k → ∃ s x : Nat, s < f ∧ i = (x : Int) ∧ Up ns s x := by
  intro f
  induction f with
  | zero => intro i k h; simp [upG] at h
  | succ f ih =>
    intro i k h
    unfold upG at h
    split at h
    · rename_i e; exact ⟨0, 1, by omega, e, Up.root⟩
    · rename_i e1
      split at h
      · omega
      · rename_i e2
        have a1 : ¬ i < 1 := fun h => e2 (.inl h)
        have a2 : ¬ (ns.length : Int) ≤ i := fun h => e2 (.inr (.inl h))
        have a3 : (nd ns i.toNat).kind = 2 := Decidable.byContradiction fun h => e2 (.inr (.inr h))
        obtain ⟨s, p, hs, hp, hu⟩ := ih _ _ h
        exact ⟨s + 1, i.toNat, by omega, by omega, Up.step (by omega) (by omega) a3 hp hu⟩
/-- a directory leads up to the root: what the document's up says of it -/
theorem up_iff {ns : List Nd} {x : Nat} : 0 ≤ upG ns 33 (x : Int) 0 ↔ ∃ s, s ≤ 32 ∧ Up ns s x := by
  constructor
  · intro h
    obtain ⟨s, y, hs, e, hu⟩ := up_of _ _ _ h
    have e := Int.ofNat.inj e
    subst e
    exact ⟨s, by omega, hu⟩
  · rintro ⟨s, hs, hu⟩
    rw [upG_of hu 33 0 (by omega)]; omega
set_option maxRecDepth 100000 in
set_option maxHeartbeats 400000 in
theorem rup_any (b off n cap : Nat) (ns : List Nd) (now i0 : Int) (w : World) (h : ∀ i, i < n → Nx w b (off + i * 10) (nd ns i)) (hb : b < w.heap.size) (hl : ns.length = n) :
    Calls Tryz.prog 60 #[.agg #[.slice (some ⟨b, off, none⟩) n cap, .int .i64 now], .int .i64 i0] w fun e w' => e = .returned (.int .i64 (upG ns 33 i0 0)) ∧ Below w.heap.size w w' := by
  obtain ⟨W, hWe⟩ : ∃ W, W = w.alloc (.cells #[.slice (some ⟨b, off, none⟩) n cap, .int .i64 now] 24) := ⟨_, rfl⟩
  have hB : Below w.heap.size w W := by rw [hWe]; exact (Below.refl _ _).alloc (Nat.le_refl _) _
  have k1 : W.heap[w.heap.size]? = some (.cells #[.slice (some ⟨b, off, none⟩) n cap, .int .i64 now] 24) := by rw [hWe]; exact heap_alloc_new w _
  have c0 : W.cell? ⟨w.heap.size, 0, none⟩ = some (.slice (some ⟨b, off, none⟩) n cap) := by rw [cell_of_row _ _ _ _ _ _ k1]; rfl
  have c1 : W.cell? ⟨w.heap.size, 1, none⟩ = some (.int .i64 now) := by rw [cell_of_row _ _ _ _ _ _ k1]; rfl
  have HC : Hid (∀ i, i < n → ∃ da dc la lc, N10 W b (off + i * 10) (nd ns i) (.slice da (nd ns i).data.length dc) (.slice la (nd ns i).list.length lc)) := fun i hi => by
    obtain ⟨da, dc, la, lc, h10, _⟩ := (h i hi).below hb hB
    exact ⟨da, dc, la, lc, h10⟩
  have HB := hide hB
  have HL := hide hl
  clear h hB k1 hl
  go_enter Tryz.func60, Tryz.ntmps60
  go_wp2_with fail
  rw [← hWe]
  clear hWe
  go_loopw [1, 5] (fun iv nv wr => ∃ (i : Int) (k : Nat), k ≤ 33 ∧ iv = .int .i64 i ∧ nv = .int .i64 k ∧ wr = W ∧ Hid (upG ns (33 - k) i k = upG ns 33 i0 0)) (fun _ nv _ => 33 - (intOf nv).toNat)
  case atStart => exact ⟨i0, 0, by omega, rfl, rfl, rfl, rfl⟩
  case round =>
    obtain ⟨i, k, hk, rfl, rfl, rfl, hu⟩ := hrel
    by_cases hlt : k < 33
    · have hlt' : (k : Int) ≤ 32 := by omega
      have hu2 := hide ((congrArg (fun f => upG ns f i k) (show 33 - (k + 1) + 1 = 33 - k by omega)).trans (unhide hu))
      by_cases e1 : i = 1
      · subst e1
        have hv : Hid (upG ns 33 i0 0 = (k : Int)) := by
          show upG ns 33 i0 0 = (k : Int)
          rw [← unhide hu2]; simp [upG]
        clear hu hu2
        go_wp2
        go_ret
        exact ⟨by rw [unhide hv]; rfl, unhide HB⟩
      · by_cases e2 : i < 1
        · have hv : Hid (upG ns 33 i0 0 = -1) := by
            show upG ns 33 i0 0 = -1
            rw [← unhide hu2]; simp [upG, e1, e2]
          clear hu hu2
          go_wp2
          go_ret
          exact ⟨by rw [unhide hv]; rfl, unhide HB⟩
        · by_cases e3 : i < (n : Int)
          · obtain ⟨j, rfl⟩ : ∃ j : Nat, i = (j : Int) := ⟨i.toNat, by omega⟩
            obtain ⟨da, dc, la, lc, h10⟩ := unhide HC j (by omega)
            obtain ⟨m, hm⟩ : ∃ m, m = nd ns j := ⟨_, rfl⟩
            have hu3 : Hid ((if (m.kind ≠ 2) then -1 else upG ns (33 - (k + 1)) m.parent (k + 1)) = upG ns 33 i0 0) := by
              show (if (m.kind ≠ 2) then -1 else upG ns (33 - (k + 1)) m.parent (k + 1)) = upG ns 33 i0 0
              rw [← unhide hu2, hm]
              have hl := unhide HL
              simp only [upG, if_neg e1, Int.toNat_natCast]
              by_cases e4 : (nd ns j).kind = 2
              · rw [if_neg (by simp [e4]), if_neg (by simp only [e4, ne_eq, not_true, or_false]; omega)]
              · rw [if_pos (by simpa using e4), if_pos (.inr (.inr (by simpa using e4)))]
            rw [← hm] at h10
            clear hu hu2
            have d0 := h10.c0
            have d1 := h10.c1
            have d2 := h10.c2
            have d3 := h10.c3
            have d4 := h10.c4
            have d5 := h10.c5
            have d6 := h10.c6
            have d7 := h10.c7
            have d8 := h10.c8
            have d9 := h10.c9
            clear h10 hm
            obtain ⟨kd, md, us, gr, lk, ti, dt, tg, ls, pa⟩ := m
            simp only at d0 d1 d2 d3 d4 d5 d6 d7 d8 d9 hu3
            by_cases e4 : kd = 2
            · subst e4
              have hu4 : Hid (upG ns (33 - (k + 1)) pa (k + 1) = upG ns 33 i0 0) := by
                show upG ns (33 - (k + 1)) pa (k + 1) = upG ns 33 i0 0
                have h := unhide hu3; simpa using h
              clear hu3
              go_wp2
              go_roundw
              case rel => exact ⟨pa, k + 1, by omega, rfl, by go_num, trivial, hu4⟩
              case measure => simp [intOf]; omega
            · have hv : Hid (upG ns 33 i0 0 = -1) := by
                show upG ns 33 i0 0 = -1
                have h := unhide hu3
                rw [if_pos e4] at h
                exact h.symm
              have e5 : ¬ (kd.toNat : Int) = 2 := fun h => e4 (UInt8.toNat_inj.1 (by simpa using (by omega : kd.toNat = 2)))
              clear hu3 e4
              go_wp2
              all_goals first
                | (exfalso; rename_i h; have h2 := h.2; simp only [bne_eq_false_iff_eq] at h2; exact e5 h2)
                | (go_ret; exact ⟨by rw [unhide hv]; rfl, unhide HB⟩)
          · have hv : Hid (upG ns 33 i0 0 = -1) := by
              show upG ns 33 i0 0 = -1
              rw [← unhide hu2]
              have hl := unhide HL
              simp only [upG, if_neg e1]
              rw [if_pos (.inr (.inl (by omega)))]
            clear hu hu2
            go_wp2
            go_ret
            exact ⟨by rw [unhide hv]; rfl, unhide HB⟩
    · obtain rfl : k = 33 := by omega
      have hv : Hid (upG ns 33 i0 0 = -1) := by
        show upG ns 33 i0 0 = -1
        rw [← unhide hu]; rfl
      clear hu
      go_wp2
      go_ret
      exact ⟨by rw [unhide hv]; rfl, unhide HB⟩
end Go.Proofs.YthmoinagfooncaaGreatDoor.Tr
