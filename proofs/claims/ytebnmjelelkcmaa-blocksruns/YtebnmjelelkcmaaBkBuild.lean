/- A builder whose bytes lie at N or above: Len, Write, String. -/
import Derived.Test.YtebnmjelelkcmaaBkBytes
import Derived.Test.YtebnmjelelkcmaaLnBuild
set_option linter.unusedVariables false
namespace Go.Proofs.Ytebnmjelelkcmaa.Bk
open Go.RowKit Go.Shelf Cu

/-- a builder at b whose bytes lie at N or above -/
def Bd (w : World) (N b : Nat) (l : Bs) : Prop := ∃ p v, (p = .pointer none ∨ p = .pointer (some ⟨b, 0, none⟩)) ∧ w.heap[b]? = some (.cells #[p, v] 56 (0, 0)) ∧ Row N v l w
/-- what lies below N, but for b, stays -/
structure But (N b : Nat) (w w' : World) : Prop where
  os : w'.os = w.os
  tape : w'.tape = w.tape
  output : w'.output = w.output
  size : w.heap.size ≤ w'.heap.size
  block : ∀ k, k < N → k < w.heap.size → k ≠ b → w'.heap[k]? = w.heap[k]?
theorem row_blk {w : World} {N : Nat} {v : Value} {l : Bs} (h : Row N v l w) : ∀ k, v.ownBlock = some k → N ≤ k ∧ ∃ cur, w.heap[k]? = some (.cells cur 5 (0, 0)) := by
  intro k hk
  rcases h.2 with ⟨rfl, _⟩ | ⟨g, cap, cur, rfl, hb, hg, _⟩
  · simp [Value.ownBlock] at hk
  · simp [Value.ownBlock] at hk
    subst hk
    exact ⟨hb, cur, hg⟩
theorem row_ne {w : World} {N b : Nat} {v : Value} {l : Bs} {cs : Array Value} (h : Row N v l w) (hb : w.heap[b]? = some (.cells cs 56 (0, 0))) : v.ownBlock ≠ some b := by
  intro e
  obtain ⟨_, cur, hc⟩ := row_blk h b e
  rw [hb] at hc
  injection hc with hc
  injection hc with _ h2 _
  exact absurd h2 (by decide)
theorem row_keep {w w' : World} {N b : Nat} {v : Value} {l : Bs} {cs : Array Value} (h : Row N v l w) (hb : w.heap[b]? = some (.cells cs 56 (0, 0))) (hg : w.grownBy w' (some b)) : Row N v l w' :=
  h.kept hg (.inr (row_ne h hb))
theorem row_form {w : World} {N : Nat} {v : Value} {l : Bs} (h : Row N v l w) : ∃ a c, v = .slice a l.length c := row_slice h

theorem copyCheck_bd (N b : Nat) (l : Bs) (w : World) (h : Bd w N b l) :
    Calls Try.prog 40 #[.pointer (some ⟨b, 0, none⟩)] w fun e w' => e = .returned (.tuple #[]) ∧ ∃ v, w'.heap[b]? = some (.cells #[.pointer (some ⟨b, 0, none⟩), v] 56 (0, 0)) ∧ Row N v l w' ∧ w.grownBy w' (some b) ∧ w'.heap.size = w.heap.size := by
  obtain ⟨p, v, hp, hb, hr⟩ := h
  rcases hp with rfl | rfl
  · have h0 : w.cell? ⟨b, 0, none⟩ = some (.pointer none) := by rw [Lib.cell_of_heap hb]; rfl
    have hsh : w.shape? b = some (56, 2) := by simp [World.shape?, hb]
    refine (Ln.copyCheck_fresh b w h0 hsh (Lib.frozen_of_heap hb 0)).mono ?_
    rintro e w' ⟨rfl, rfl⟩
    exact ⟨rfl, v, heap_setCell_same w b 0 _ _ _ hb, row_keep hr hb (grown_set _ _ _ _), grown_set _ _ _ _, by simp⟩
  · have h0 : w.cell? ⟨b, 0, none⟩ = some (.pointer (some ⟨b, 0, none⟩)) := by rw [Lib.cell_of_heap hb]; rfl
    refine (Ln.copyCheck_used b w h0).mono ?_
    rintro e w' ⟨rfl, rfl⟩
    exact ⟨rfl, v, hb, hr, grown_refl _ _, rfl⟩

set_option maxHeartbeats 1000000 in
theorem len_bd (N b : Nat) (l : Bs) (w : World) (h : Bd w N b l) :
    Calls Try.prog 28 #[.pointer (some ⟨b, 0, none⟩)] w fun e w' => e = .returned (.int .i64 l.length) ∧ w' = w := by
  obtain ⟨p, v, hp, hb, hr⟩ := h
  have h1 : w.cell? ⟨b, 1, none⟩ = some v := by rw [Lib.cell_of_heap hb]; rfl
  obtain ⟨a, c, rfl⟩ := row_form hr
  clear hr hp hb
  go_enter Try.func28, Try.ntmps28
  go_wp2
  go_ret
  exact ⟨rfl, rfl⟩

set_option maxHeartbeats 2000000 in
set_option maxRecDepth 100000 in
theorem write_bd (N b B' g cap : Nat) (l r : Bs) (w : World) (h : Bd w N b l) (hS : Row B' (sl g r.length cap) r w) (hlen : l.length + r.length ≤ 140737488355328) (hN : N ≤ w.heap.size) :
    Calls Try.prog 27 #[.pointer (some ⟨b, 0, none⟩), sl g r.length cap] w fun e w' => e = .returned (.tuple #[.int .i64 r.length, .nilIface]) ∧ Bd w' N b (l ++ r) ∧ But N b w w' := by
  obtain ⟨i0, hi, hz0, hz1, hz2⟩ := info_parts Try.infoByte
  have HS := hide hS
  have HC := hide (copyCheck_bd N b l w h)
  have hBk : Hid (∃ cs, w.heap[b]? = some (.cells cs 56 (0, 0))) := by obtain ⟨p, v, _, hb, _⟩ := h; exact ⟨_, hb⟩
  clear hS h
  go_enter Try.func27, Try.ntmps27
  go_wp2_with fail
  refine (unhide HC).mono ?_
  rintro e w1 ⟨rfl, v, hb1, hr1, hg1, hz1'⟩
  have hb1' : b < w1.heap.size := (Array.getElem?_eq_some_iff.1 hb1).1
  have c1 : w1.cell? ⟨b, 1, none⟩ = some v := by rw [Lib.cell_of_heap hb1]; rfl
  obtain ⟨cs, hcs⟩ := unhide hBk
  have hS1 := hide (row_keep (unhide HS) hcs hg1)
  have HB1 := hide hb1
  have HG1 := hide hg1
  have hN1 : N ≤ w1.heap.size := by omega
  have HNE := hide (row_ne hr1 hb1)
  have HRB := hide (row_blk hr1)
  have hone : ∀ u ∈ Lib.byteCells r, u.oneCell' = true := by
    intro u hu
    obtain ⟨c, _, rfl⟩ := List.mem_map.1 hu
    rfl
  have HONE := hide hone
  have hr1' := hide hr1
  clear hcs hb1 hg1 HS HC hr1 hone hz1'
  go_wp2_with (at_builtin; refine wpList_append_own _ rfl _ _ 49 rfl N 5 i0 (.int .u8 0) 1 1 Try.underlying49 hi hz0 hz1 hz2 rfl (by decide) _ _ _ rfl (unhide hr1') ⟨g, 0, none⟩ r.length cap (Lib.byteCells r) rfl (by rw [Lib.byteCells_length, Nat.mul_one]) (fun j u hj => World.ownsRow.cells (unhide hS1) (g := g) rfl j u hj) (unhide HONE) (by unfold maxLen; omega) (by omega) hN1 ?_)
  intro v' w2 hown' hgrow _
  have hb2 : w2.heap[b]? = some (.cells #[.pointer (some ⟨b, 0, none⟩), v] 56 (0, 0)) := (hgrow.block b hb1' (fun e => unhide HNE e.symm)).trans (unhide HB1)
  have d1 : w2.cell? ⟨b, 1, none⟩ = some v := by rw [Lib.cell_of_heap hb2]; rfl
  have f1 : w2.frozen? ⟨b, 1, none⟩ = false := Lib.frozen_of_heap hb2 1
  have hrow2 : Row N v' (l ++ r) w2 := by
    have := hown'
    unfold Row
    rw [List.length_append]
    simpa [Lib.byteCells] using this
  have hfin : Hid (Bd (w2.setCell ⟨b, 1, none⟩ v') N b (l ++ r)) :=
    ⟨_, v', .inr rfl, heap_setCell_same w2 b 1 _ _ _ hb2, row_keep hrow2 hb2 (grown_set _ _ _ _)⟩
  have hbut : Hid (But N b w (w2.setCell ⟨b, 1, none⟩ v')) := by
    have hg1 := unhide HG1
    refine ⟨hgrow.os.trans hg1.os, hgrow.tape.trans hg1.tape, hgrow.output.trans hg1.output, by have := hgrow.size; have := hg1.size; simp; omega, fun k hk hkw hkb => ?_⟩
    rw [heap_setCell_other _ _ _ _ hkb, hgrow.block k (by have := hg1.size; omega) (fun e => by have := (unhide HRB k e.symm).1; omega), hg1.block k hkw (fun e => hkb (by injection e))]
  obtain ⟨ao, cap', rfl⟩ := row_form hrow2
  rw [List.length_append] at hfin hbut
  clear hgrow hown' hrow2 hb2
  go_wp2
  go_ret2
  exact ⟨rfl, unhide hfin, unhide hbut⟩

/-- what is no row of bytes stays -/
def Keep8 (w w' : World) : Prop := ∀ k, k < w.heap.size → (∀ cs fz, w.heap[k]? ≠ some (.cells cs 5 fz)) → w'.heap[k]? = w.heap[k]?
theorem keep8_freeze (w : World) (g n : Nat) (cur : Array Value) (hg : w.heap[g]? = some (.cells cur 5 (0, 0))) : Keep8 w (w.drew.freeze ⟨g, 0, none⟩ n) := by
  intro k _ hk
  unfold World.freeze
  split
  · rfl
  · simp only [Array.getElem?_modify]
    rw [if_neg (fun e => by subst e; exact hk _ _ hg)]
    rfl
set_option maxHeartbeats 2000000 in
set_option maxRecDepth 100000 in
theorem string_bd1 (N b : Nat) (l : Bs) (w : World) (h : Bd w N b l) (h0 : l ≠ []) :
    Calls Try.prog 29 #[.pointer (some ⟨b, 0, none⟩)] w fun e w' => e = .returned (.string ⟨l.toArray⟩) ∧ Below N w w' ∧ Keep8 w w' := by
  obtain ⟨p, v, _, hbk, hown⟩ := h
  have hl0 : 0 < l.length := List.length_pos_iff.2 h0
  obtain ⟨g, cap, rfl⟩ := row_some hown hl0
  obtain ⟨hbg, cur, hg⟩ := row_blk hown g rfl
  have hcap : l.length ≤ cap ∧ cap ≤ maxLen ∧ cur.size = cap := by
    rcases hown.2 with ⟨h, _⟩ | ⟨g', cap', cur', hv, _, hg', h1, h2, h3, _⟩
    · simp at h
    · simp at hv
      obtain ⟨rfl, rfl⟩ := hv
      rw [hg] at hg'
      injection hg' with hg'
      injection hg' with e1 _ _
      subst e1
      exact ⟨h1, h2, by simpa using h3⟩
  have c1 : w.drew.cell? ⟨b, 1, none⟩ = some (.slice (some ⟨g, 0, none⟩) l.length cap) := by
    have : w.drew.heap[b]? = some (.cells #[p, .slice (some ⟨g, 0, none⟩) l.length cap] 56 (0, 0)) := hbk
    rw [Lib.cell_of_heap this]; rfl
  have hSD : (Builtin.unsafeSliceData_ #[49] 75 #[.slice (some ⟨g, 0, none⟩) l.length cap]).run Try.prog w.drew = .ok (.pointer (some ⟨g, 0, none⟩)) w.drew :=
    Lib.run_unsafeSliceData_row _ _ _ _ _ _ (by omega)
  have hUS : (Builtin.unsafeString_ #[75, 3] 9 #[.pointer (some ⟨g, 0, none⟩), .int .i64 l.length]).run Try.prog w.drew = .ok (.string ⟨l.toArray⟩) (w.drew.freeze ⟨g, 0, none⟩ l.length) := by
    have hg' : w.drew.heap[g]? = some (.cells cur 5 (0, 0)) := hg
    refine Lib.run_unsafeString_row w.drew 75 3 9 5 Try.underlying75 Try.sextra.cellsByte g cur.size (by simp [World.shape?, hg']) l h0 (by omega) (by have := hcap.2.1; unfold maxLen at this; omega) ?_
    intro j x hx
    exact World.ownsRow.cells hown (g := g) rfl j (.int .u8 x.toNat) (by simp [Lib.byteCells, hx])
  have hk8 := hide (keep8_freeze w g l.length cur hg)
  clear hown hcap hg hbk h0
  have mixed := Try.slays.mixed
  go_enter Try.func29, Try.ntmps29
  go_wp2
  go_region_o
  all_goals (go_wp2; go_ret; exact ⟨rfl, Lib.below_freeze (Below.drew (Below.refl N w)) (p := ⟨g, 0, none⟩) hbg _, unhide hk8⟩)
theorem string_bd (N b B : Nat) (l : Bs) (w : World) (h : Bd w N b l) (hN : B ≤ N) (hB : B ≤ w.heap.size) :
    Calls Try.prog 29 #[.pointer (some ⟨b, 0, none⟩)] w fun e w' => e = .returned (.string ⟨l.toArray⟩) ∧ Below B w w' ∧ Keep8 w w' := by
  by_cases h0 : l = []
  · subst h0
    obtain ⟨p, v, _, hbk, hown⟩ := h
    have aux : Calls Try.prog 29 #[.pointer (some ⟨b, 0, none⟩)] w fun e w' => e = .returned (.string ⟨#[]⟩) ∧ Below w.heap.size w w' := by
      rcases hown.2 with ⟨rfl, _⟩ | ⟨g, cap, cur, rfl, hbg, hg, _, _, _, _⟩
      · exact Any.Builder_String_nil Try.slays Try.sextra w.heap.size b p w hbk
      · by_cases hc0 : cap = 0
        · subst hc0
          exact Any.Builder_String_noroom Try.slays Try.sextra w.heap.size b g p cur w (Nat.le_refl _) hbk hg
        · exact Any.Builder_String_room Try.slays Try.sextra w.heap.size b g cap p w hc0 hbk
    exact aux.mono fun e w' h => ⟨h.1, h.2.mono hB, fun k hk _ => h.2.block k hk⟩
  · exact (string_bd1 N b l w h h0).mono fun e w' h => ⟨h.1, h.2.1.mono hN, h.2.2⟩

set_option maxHeartbeats 1000000 in
theorem len_any (B b : Nat) (l : Bs) (w : World) (h : Ln.IsB B b l w) :
    Calls Try.prog 28 #[.pointer (some ⟨b, 0, none⟩)] w fun e w' => e = .returned (.int .i64 l.length) ∧ w' = w := by
  refine len_bd B b l w ?_
  rcases h with ⟨_, v, hb, hr, _⟩ | ⟨_, v, hb, hr, _⟩
  · exact ⟨_, v, .inl rfl, hb, by rw [Lib.byteCells_length] at hr; exact hr⟩
  · exact ⟨_, v, .inr rfl, hb, by rw [Lib.byteCells_length] at hr; exact hr⟩
end Go.Proofs.Ytebnmjelelkcmaa.Bk
