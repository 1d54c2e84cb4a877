/- What strings.Split at a comma, octalChanges and Parse answer. -/
import Derived.Test.YtijknodbaddelaaGreatDoorMoClauses
import Derived.Test.YtijknodbaddelaaGreatDoorMoShelf
import Derived.Shelf.Strings.Split
import Derived.Laws.EntriesVeiled
namespace Go.Proofs.YtijknodbaddelaaGreatDoor.Mo
open Go.RowKit Go.Shelf

theorem idx_hit : ∀ {a : List UInt8} (d : UInt8) (b : List UInt8), (∀ c ∈ a, c ≠ d) → Lib.indexByte (a ++ d :: b) d = a.length
  | [], d, b, _ => by simp [Lib.indexByte]
  | c :: a, d, b, h => by
    have ih := idx_hit (a := a) d b (fun c hc => h c (by simp [hc]))
    have hc : (c == d) = false := by simpa using h c (by simp)
    have : ((a.length : Int) == -1) = false := by simp
    simp [Lib.indexByte, hc, ih, this]
theorem Tryz.infoStr : (Tryz.prog.info? 9).map (fun i => (i.zero, i.size, i.bytes)) = some (some (.string ByteArray.empty), 1, 16) := by kernel_rfl

theorem splitK_C : ∀ (n : Nat) (s : List UInt8), s.length ≤ n → Lib.splitK [44] 0 (s.count 44) s = splitC s
  | n, s, hn => by
    by_cases hm : (44 : UInt8) ∈ s
    · obtain ⟨a, b, rfl, ha⟩ := List.eq_append_cons_of_mem hm
      have hc : ∀ c ∈ a, c ≠ 44 := fun c hc e => ha (e ▸ hc)
      have hi : Lib.index (a ++ 44 :: b) [44] = (a.length : Int) := by rw [Lib.index_one]; exact idx_hit 44 b hc
      have h0 : a.count 44 = 0 := List.count_eq_zero.2 ha
      have e : (a ++ 44 :: b).count 44 = b.count 44 + 1 := by rw [List.count_append, h0, List.count_cons_self]; omega
      rw [e, Lib.splitK, hi, if_neg (by simp), splitC_hit b hc]
      cases n with
      | zero => simp at hn
      | succ n =>
        have ih := splitK_C n b (by simp at hn; omega)
        simp at ih ⊢
        exact ih
    · have h0 : s.count 44 = 0 := List.count_eq_zero.2 hm
      rw [h0, splitC_end (fun c hc e => hm (e ▸ hc))]; rfl

/-- the parts of a text between commas -/
def pcs (s : ByteArray) : List ByteArray := Lib.splitB { data := #[44] } 0 (Lib.countB s { data := #[44] }) s
theorem pcs_bs (s : ByteArray) : (pcs s).map bs = splitC (bs s) := by
  unfold pcs
  have h := Lib.splitB_data { data := #[44] } 0 (Lib.countB s { data := #[44] }) s
  have e : Lib.countB s { data := #[44] } = (bs s).count 44 := Lib.count_one 44 (bs s)
  rw [e] at h ⊢
  exact h.trans (splitK_C _ (bs s) (Nat.le_refl _))
theorem pcs_len (s : ByteArray) : (pcs s).length = (splitC (bs s)).length := by rw [← pcs_bs]; simp
theorem pcs_le (s : ByteArray) : (pcs s).length ≤ s.size + 1 := by
  have h1 := splitC_len (bs s)
  have h2 : ∀ l : List (List UInt8), l.length ≤ (l.map (fun x => x.length + 1)).sum := by
    intro l
    induction l with
    | nil => simp
    | cons x l ih => simp at ih ⊢; omega
  have := h2 (splitC (bs s))
  rw [pcs_len, ← bs_len]; omega
theorem pcs_count (s : ByteArray) : Lib.countB s { data := #[44] } + 1 = (pcs s).length := (Lib.splitB_all { data := #[44] } (Nat.le_refl _) 0 _ s rfl).symm
theorem pcs_size (s x : ByteArray) (h : x ∈ pcs s) : x.size ≤ s.size := by
  have h1 : bs x ∈ splitC (bs s) := by rw [← pcs_bs]; exact List.mem_map_of_mem h
  have h2 := splitC_len (bs s)
  have h3 : ∀ (l : List (List UInt8)), bs x ∈ l → (bs x).length + 1 ≤ (l.map (fun x => x.length + 1)).sum := by
    intro l
    induction l with
    | nil => simp
    | cons y l ih =>
      intro hm
      rcases List.mem_cons.1 hm with e | hm
      · rw [← e]; simp
      · have := ih hm; simp at this ⊢; omega
  have := h3 _ h1
  rw [← bs_len, ← bs_len]; omega

set_option maxHeartbeats 1000000 in
theorem split_any (s : ByteArray) (w : World) (hs : s.size ≤ 4096) :
    Calls Tryz.prog 13 #[.string s, .string { data := #[44] }] w fun e w' => e = .returned (.slice (some ⟨w.heap.size, 0, none⟩) (pcs s).length (pcs s).length) ∧ w' = w.alloc (.cells ((pcs s).map Value.string).toArray 9) := by
  have hle := pcs_le s
  have hcn := pcs_count s
  have c := Any.strings_genSplit_core Tryz.lays221 Tryz.infoStr s { data := #[44] } 0 (-1) (Lib.countB s { data := #[44] } + 1) w (by omega) (Nat.le_refl _) (Nat.zero_le _)
    (fun x c hx => by
      have := Tryz.strings_Index_one x 44 (w.alloc (.cells c 9))
      rw [← Lib.index_one] at this
      exact this)
    (by
      have := Tryz.strings_Count_one s 44 w
      rw [show Lib.countByte s.data.toList 44 = Lib.countB s { data := #[44] } from (Lib.count_one 44 (bs s)).symm] at this
      exact this) (by decide) (by decide) (by rw [if_pos (by decide)]; omega)
  have e2 : Lib.cellsOf (Lib.splitB { data := #[44] } 0 (Lib.countB s { data := #[44] } + 1 - 1) s) (Lib.countB s { data := #[44] } + 1) = ((pcs s).map Value.string).toArray := by
    rw [Nat.add_sub_cancel, hcn]; exact Lib.cellsOf_full _
  rw [e2, Nat.add_sub_cancel] at c
  have e3 : (Lib.splitB { data := #[44] } 0 (Lib.countB s { data := #[44] }) s).length = (pcs s).length := rfl
  rw [e3, hcn] at c
  have C : Hid (Calls Tryz.prog 54 #[.string s, .string { data := #[44] }, .int .i64 0, .int .i64 (-1)] w fun e w' => e = .returned (.slice (some ⟨w.heap.size, 0, none⟩) (pcs s).length (pcs s).length) ∧ w' = w.alloc (.cells ((pcs s).map Value.string).toArray 9)) := c
  clear c e2 e3
  go_enter Tryz.func13, Tryz.ntmps13
  go_wp2_with (go_at_call 54; refine (unhide C).mono ?_; rintro e w' ⟨rfl, hw⟩; rw [hw])
  go_ret
  exact ⟨rfl, rfl⟩

theorem pcs_get (s : ByteArray) (k : Nat) (hk : k < (pcs s).length) : ∃ h : k < (splitC (bs s)).length, (splitC (bs s))[k] = bs (pcs s)[k] := by
  have e := pcs_bs s
  refine ⟨by rw [← e]; simpa using hk, ?_⟩
  simp only [← e, List.getElem_map]

end Go.Proofs.YtijknodbaddelaaGreatDoor.Mo
