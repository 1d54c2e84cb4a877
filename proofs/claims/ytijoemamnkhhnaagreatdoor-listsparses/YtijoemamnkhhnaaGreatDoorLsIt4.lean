/- What readItem answers. -/
import Derived.Test.YtijoemamnkhhnaaGreatDoorLsItem
namespace Go.Proofs.YtijoemamnkhhnaaGreatDoor.Ls
open Go.RowKit Go.Shelf

/-! ### an item is read as the document says -/
def fromOk (s : List UInt8) : Bool := Lib.hasSuffix s [45] && decide (place (Lib.trimSuffix s [45]) ≠ 0)
def toOk (s : List UInt8) : Bool := Lib.hasPrefix s [45] && decide (place (Lib.trimPrefix s [45]) ≠ 0)
def bothOk (s : List UInt8) : Bool := (decide (place (cutL s) ≠ 0) && decide (place (cutR s) ≠ 0)) && decide (place (cutL s) ≤ place (cutR s))
def read4 (s : List UInt8) : Option R :=
  if decide (place s ≠ 0) = true then some ((place s : Int), (place s : Int)) else if bothOk s = true then some ((place (cutL s) : Int), (place (cutR s) : Int))
  else if fromOk s = true then some ((place (Lib.trimSuffix s [45]) : Int), 0) else if toOk s = true then some (1, (place (Lib.trimPrefix s [45]) : Int)) else none
theorem suf_snoc (a : List UInt8) : Lib.hasSuffix (a ++ [45]) [45] = true ∧ Lib.trimSuffix (a ++ [45]) [45] = a := by
  have h : Lib.hasSuffix (a ++ [45]) [45] = true := by unfold Lib.hasSuffix; exact List.isSuffixOf_iff_suffix.2 ⟨a, rfl⟩
  exact ⟨h, by unfold Lib.trimSuffix; rw [if_pos h]; simp⟩
theorem suf_inv {s : List UInt8} (h : Lib.hasSuffix s [45] = true) : ∃ a, s = a ++ [45] := by
  unfold Lib.hasSuffix at h
  obtain ⟨a, ha⟩ := List.isSuffixOf_iff_suffix.1 h
  exact ⟨a, ha.symm⟩
theorem pre_inv {s : List UInt8} (h : Lib.hasPrefix s [45] = true) : ∃ a, s = 45 :: a := by
  unfold Lib.hasPrefix at h
  obtain ⟨a, ha⟩ := List.isPrefixOf_iff_prefix.1 h
  exact ⟨a, ha.symm⟩
theorem pre_cons (a : List UInt8) : Lib.hasPrefix (45 :: a) [45] = true ∧ Lib.trimPrefix (45 :: a) [45] = a := by
  have h : Lib.hasPrefix (45 :: a) [45] = true := by unfold Lib.hasPrefix; exact List.isPrefixOf_iff_prefix.2 ⟨a, rfl⟩
  exact ⟨h, by unfold Lib.trimPrefix; rw [if_pos h]; simp⟩
theorem dash : dig 45 = false := by decide
theorem item_read (s : List UInt8) : item s = read4 s := by
  rcases cutD_cases s with ⟨h1, h2⟩ | ⟨a, b, h1, rfl, h3⟩
  · have hb : bothOk s = false := by simp [bothOk, cutR, h1, place_nil]
    have hf : fromOk s = false := by
      cases h : Lib.hasSuffix s [45]
      · simp [fromOk, h]
      · obtain ⟨x, rfl⟩ := suf_inv h; exact absurd rfl (h2 45 (by simp))
    have ht : toOk s = false := by
      cases h : Lib.hasPrefix s [45]
      · simp [toOk, h]
      · obtain ⟨x, rfl⟩ := pre_inv h; exact absurd rfl (h2 45 (by simp))
    rw [item_one h2]
    unfold read4
    rw [hb, hf, ht]
    by_cases hp : place s = 0 <;> simp [hp]
  · have hp : place (a ++ 45 :: b) = 0 := place_no_byte (c := 45) (by simp) dash
    have eL : cutL (a ++ 45 :: b) = a := by simp [cutL, h1]
    have eR : cutR (a ++ 45 :: b) = b := by simp [cutR, h1]
    have hbo : bothOk (a ++ 45 :: b) = ((decide (place a ≠ 0) && decide (place b ≠ 0)) && decide (place a ≤ place b)) := by unfold bothOk; rw [eL, eR]
    have hf : b ≠ [] → fromOk (a ++ 45 :: b) = false := by
      intro hb
      cases h : Lib.hasSuffix (a ++ 45 :: b) [45]
      · simp [fromOk, h]
      · obtain ⟨x, hx⟩ := suf_inv h
        have hm : (45 : UInt8) ∈ x := by
          obtain ⟨y, z, rfl⟩ : ∃ y z, b = y ++ [z] := ⟨b.dropLast, b.getLast hb, (List.dropLast_concat_getLast hb).symm⟩
          have : (a ++ 45 :: y) ++ [z] = x ++ [45] := by simpa using hx
          have := (List.append_inj' this rfl).1
          rw [← this]; simp
        simp only [fromOk, hx, (suf_snoc x).1, (suf_snoc x).2, place_no_byte hm dash]
        rfl
    unfold read4
    rw [hp, hbo, eL, eR]
    by_cases ha : a = []
    · subst ha
      rw [List.nil_append, item_to]
      have hf' : fromOk ([] ++ 45 :: b) = false := by
        by_cases hb : b = []
        · subst hb; decide +kernel
        · exact hf hb
      rw [List.nil_append] at hf'
      rw [hf']
      unfold toOk
      rw [(pre_cons b).1, (pre_cons b).2]
      simp [place_nil]
    · have ht : toOk (a ++ 45 :: b) = false := by
        cases h : Lib.hasPrefix (a ++ 45 :: b) [45]
        · simp [toOk, h]
        · obtain ⟨x, hx⟩ := pre_inv h
          cases a with
          | nil => exact absurd rfl ha
          | cons c t => simp at hx; exact absurd hx.1 (h3 c (by simp))
      rw [ht]
      by_cases hb : b = []
      · subst hb
        rw [item_from h3 ha]
        unfold fromOk
        rw [(suf_snoc a).1, (suf_snoc a).2]
        simp [place_nil]
      · rw [item_both h3 ha hb, hf hb]
        by_cases h5 : place a = 0
        · simp [h5]
        · by_cases h6 : place b < place a
          · rw [if_pos (.inr h6)]
            have : ¬ place a ≤ place b := by omega
            simp [this]
          · rw [if_neg (by omega)]
            have : place b ≠ 0 := by omega
            have h7 : place a ≤ place b := by omega
            simp [h5, this, h7]

def formsV : Value := .agg #[.func (.func 51) #[] #[], .func (.func 52) #[] #[], .func (.func 53) #[] #[], .func (.func 54) #[] #[]]
def Rd (f : Nat) (s : ByteArray) (a b : Int) (ok : Bool) : Prop := ∀ w, Calls Tryz.prog f #[.string s] w fun e w' => e = .returned (rV a b ok) ∧ Below w.heap.size w w'
theorem bcell {W w1 : World} (hb : Below W.heap.size W w1) : (∀ b o, b < W.heap.size → w1.cell? ⟨b, o, none⟩ = W.cell? ⟨b, o, none⟩) ∧ (∀ b o, b < W.heap.size → w1.frozen? ⟨b, o, none⟩ = W.frozen? ⟨b, o, none⟩) :=
  ⟨fun b o h => hb.cell (p := ⟨b, o, none⟩) h, fun b o h => hb.frozen (p := ⟨b, o, none⟩) h⟩

theorem close_item {w w1 : World} (h : Below w.heap.size w w1) (o : Obj) (a b : Value) : Below w.heap.size w (((w1.setCell ⟨w.heap.size + 1, 0, none⟩ a).setCell ⟨w.heap.size + 1, 1, none⟩ b).alloc o) := by
  have h2 := (h.setCell (p := ⟨w.heap.size + 1, 0, none⟩) (Nat.le_succ _) a).setCell (p := ⟨w.heap.size + 1, 1, none⟩) (Nat.le_succ _) b
  exact h2.alloc h2.size o
theorem index_forms (w : World) : (Instr.index 48 formsV (.int .i64 0)).run Tryz.prog w = .ok (.func (.func 51) #[] #[]) w ∧ (Instr.index 48 formsV (.int .i64 1)).run Tryz.prog w = .ok (.func (.func 52) #[] #[]) w
    ∧ (Instr.index 48 formsV (.int .i64 2)).run Tryz.prog w = .ok (.func (.func 53) #[] #[]) w ∧ (Instr.index 48 formsV (.int .i64 3)).run Tryz.prog w = .ok (.func (.func 54) #[] #[]) w := by
  refine ⟨?_, ?_, ?_, ?_⟩ <;> simp [Instr.index, formsV, run_underlying Tryz.underlying48, asIntOf, go_sem, Tryz.sizeOf47, part, Tryz.isAgg47]

set_option maxHeartbeats 1000000 in
set_option maxRecDepth 100000 in
theorem readItem_1 (s : ByteArray) (a1 b1 : Int) (w : World) (h1 : Rd 51 s a1 b1 true) :
    Calls Tryz.prog 12 #[formsV, .string s] w fun e w' => e = .returned (rV a1 b1 true) ∧ Below w.heap.size w w' := by
  have H1 := hide h1
  clear h1
  have hx := index_forms
  unfold formsV at hx ⊢
  have x0 := fun w => (hx w).1
  have x1 := fun w => (hx w).2.1
  have x2 := fun w => (hx w).2.2.1
  have x3 := fun w => (hx w).2.2.2
  clear hx
  go_enter Tryz.func12, Tryz.ntmps12
  go_wp2_with fail
  refine wp_loop_rounds 1 ?_
  rw [rounds_succ]
  go_wp2_with fail
  refine (unhide H1 _).mono ?_
  rintro e w1 ⟨rfl, hb1⟩
  have B1 : Hid (Below w.heap.size w w1) := (((Below.refl _ _).alloc (Nat.le_refl _) _).alloc (by simp) _).trans (hb1.mono (by simp; omega))
  have hz1 : w.heap.size + 1 < w1.heap.size := by have := hb1.size; simp at this; omega
  have C1 := hb1.cell (p := ⟨w.heap.size + 1, 0, none⟩) (by simp)
  have D1 := hb1.cell (p := ⟨w.heap.size + 1, 1, none⟩) (by simp)
  have F1 := hb1.frozen (p := ⟨w.heap.size + 1, 0, none⟩) (by simp)
  have G1 := hb1.frozen (p := ⟨w.heap.size + 1, 1, none⟩) (by simp)
  simp at C1 D1 F1 G1
  clear hb1
  go_wp2_with fail
  clear x0 x1 x2 x3
  refine bodyPost_ret (v := .tuple #[.agg #[.int .i64 a1, .int .i64 b1], .bool true]) (by simp [results, Tryz.results12, go_sem, hz1, C1, D1]) rfl ⟨rfl, ?_⟩
  exact close_item (unhide B1) _ _ _

set_option maxHeartbeats 1000000 in
set_option maxRecDepth 100000 in
theorem readItem_2 (s : ByteArray) (a1 b1 : Int) (a2 b2 : Int) (w : World) (h1 : Rd 51 s a1 b1 false) (h2 : Rd 52 s a2 b2 true) :
    Calls Tryz.prog 12 #[formsV, .string s] w fun e w' => e = .returned (rV a2 b2 true) ∧ Below w.heap.size w w' := by
  have H1 := hide h1
  clear h1
  have H2 := hide h2
  clear h2
  have hx := index_forms
  unfold formsV at hx ⊢
  have x0 := fun w => (hx w).1
  have x1 := fun w => (hx w).2.1
  have x2 := fun w => (hx w).2.2.1
  have x3 := fun w => (hx w).2.2.2
  clear hx
  go_enter Tryz.func12, Tryz.ntmps12
  go_wp2_with fail
  refine wp_loop_rounds 2 ?_
  rw [rounds_succ]
  go_wp2_with fail
  refine (unhide H1 _).mono ?_
  rintro e w1 ⟨rfl, hb1⟩
  have B1 : Hid (Below w.heap.size w w1) := (((Below.refl _ _).alloc (Nat.le_refl _) _).alloc (by simp) _).trans (hb1.mono (by simp; omega))
  have hz1 : w.heap.size + 1 < w1.heap.size := by have := hb1.size; simp at this; omega
  have C1 := hb1.cell (p := ⟨w.heap.size + 1, 0, none⟩) (by simp)
  have D1 := hb1.cell (p := ⟨w.heap.size + 1, 1, none⟩) (by simp)
  have F1 := hb1.frozen (p := ⟨w.heap.size + 1, 0, none⟩) (by simp)
  have G1 := hb1.frozen (p := ⟨w.heap.size + 1, 1, none⟩) (by simp)
  simp at C1 D1 F1 G1
  clear hb1
  go_wp2_with fail
  rw [rounds_succ]
  go_wp2_with fail
  refine (unhide H2 _).mono ?_
  rintro e w2 ⟨rfl, hb2⟩
  have B2 : Hid (Below w.heap.size w w2) := ((unhide B1).alloc (unhide B1).size _).trans (hb2.mono (by simp; omega))
  have hz2 : w.heap.size + 1 < w2.heap.size := by have := hb2.size; simp at this; omega
  have Q2 : Below w1.heap.size w1 w2 := ((Below.refl _ _).alloc (Nat.le_refl _) _).trans (hb2.mono (by simp))
  have C2 : w2.cell? ⟨w.heap.size + 1, 0, none⟩ = some (.int .i64 0) := (Q2.cell (p := ⟨w.heap.size + 1, 0, none⟩) hz1).trans C1
  have D2 : w2.cell? ⟨w.heap.size + 1, 1, none⟩ = some (.int .i64 0) := (Q2.cell (p := ⟨w.heap.size + 1, 1, none⟩) hz1).trans D1
  have F2 : w2.frozen? ⟨w.heap.size + 1, 0, none⟩ = false := (Q2.frozen (p := ⟨w.heap.size + 1, 0, none⟩) hz1).trans F1
  have G2 : w2.frozen? ⟨w.heap.size + 1, 1, none⟩ = false := (Q2.frozen (p := ⟨w.heap.size + 1, 1, none⟩) hz1).trans G1
  clear C1 D1 F1 G1 hz1 Q2
  clear hb2
  go_wp2_with fail
  clear x0 x1 x2 x3
  refine bodyPost_ret (v := .tuple #[.agg #[.int .i64 a2, .int .i64 b2], .bool true]) (by simp [results, Tryz.results12, go_sem, hz2, C2, D2]) rfl ⟨rfl, ?_⟩
  exact close_item (unhide B2) _ _ _

set_option maxHeartbeats 1000000 in
set_option maxRecDepth 100000 in
theorem readItem_3 (s : ByteArray) (a1 b1 : Int) (a2 b2 : Int) (a3 b3 : Int) (w : World) (h1 : Rd 51 s a1 b1 false) (h2 : Rd 52 s a2 b2 false) (h3 : Rd 53 s a3 b3 true) :
    Calls Tryz.prog 12 #[formsV, .string s] w fun e w' => e = .returned (rV a3 b3 true) ∧ Below w.heap.size w w' := by
  have H1 := hide h1
  clear h1
  have H2 := hide h2
  clear h2
  have H3 := hide h3
  clear h3
  have hx := index_forms
  unfold formsV at hx ⊢
  have x0 := fun w => (hx w).1
  have x1 := fun w => (hx w).2.1
  have x2 := fun w => (hx w).2.2.1
  have x3 := fun w => (hx w).2.2.2
  clear hx
  go_enter Tryz.func12, Tryz.ntmps12
  go_wp2_with fail
  refine wp_loop_rounds 3 ?_
  rw [rounds_succ]
  go_wp2_with fail
  refine (unhide H1 _).mono ?_
  rintro e w1 ⟨rfl, hb1⟩
  have B1 : Hid (Below w.heap.size w w1) := (((Below.refl _ _).alloc (Nat.le_refl _) _).alloc (by simp) _).trans (hb1.mono (by simp; omega))
  have hz1 : w.heap.size + 1 < w1.heap.size := by have := hb1.size; simp at this; omega
  have C1 := hb1.cell (p := ⟨w.heap.size + 1, 0, none⟩) (by simp)
  have D1 := hb1.cell (p := ⟨w.heap.size + 1, 1, none⟩) (by simp)
  have F1 := hb1.frozen (p := ⟨w.heap.size + 1, 0, none⟩) (by simp)
  have G1 := hb1.frozen (p := ⟨w.heap.size + 1, 1, none⟩) (by simp)
  simp at C1 D1 F1 G1
  clear hb1
  go_wp2_with fail
  rw [rounds_succ]
  go_wp2_with fail
  refine (unhide H2 _).mono ?_
  rintro e w2 ⟨rfl, hb2⟩
  have B2 : Hid (Below w.heap.size w w2) := ((unhide B1).alloc (unhide B1).size _).trans (hb2.mono (by simp; omega))
  have hz2 : w.heap.size + 1 < w2.heap.size := by have := hb2.size; simp at this; omega
  have Q2 : Below w1.heap.size w1 w2 := ((Below.refl _ _).alloc (Nat.le_refl _) _).trans (hb2.mono (by simp))
  have C2 : w2.cell? ⟨w.heap.size + 1, 0, none⟩ = some (.int .i64 0) := (Q2.cell (p := ⟨w.heap.size + 1, 0, none⟩) hz1).trans C1
  have D2 : w2.cell? ⟨w.heap.size + 1, 1, none⟩ = some (.int .i64 0) := (Q2.cell (p := ⟨w.heap.size + 1, 1, none⟩) hz1).trans D1
  have F2 : w2.frozen? ⟨w.heap.size + 1, 0, none⟩ = false := (Q2.frozen (p := ⟨w.heap.size + 1, 0, none⟩) hz1).trans F1
  have G2 : w2.frozen? ⟨w.heap.size + 1, 1, none⟩ = false := (Q2.frozen (p := ⟨w.heap.size + 1, 1, none⟩) hz1).trans G1
  clear C1 D1 F1 G1 hz1 Q2
  clear hb2
  go_wp2_with fail
  rw [rounds_succ]
  go_wp2_with fail
  refine (unhide H3 _).mono ?_
  rintro e w3 ⟨rfl, hb3⟩
  have B3 : Hid (Below w.heap.size w w3) := ((unhide B2).alloc (unhide B2).size _).trans (hb3.mono (by simp; omega))
  have hz3 : w.heap.size + 1 < w3.heap.size := by have := hb3.size; simp at this; omega
  have Q3 : Below w2.heap.size w2 w3 := ((Below.refl _ _).alloc (Nat.le_refl _) _).trans (hb3.mono (by simp))
  have C3 : w3.cell? ⟨w.heap.size + 1, 0, none⟩ = some (.int .i64 0) := (Q3.cell (p := ⟨w.heap.size + 1, 0, none⟩) hz2).trans C2
  have D3 : w3.cell? ⟨w.heap.size + 1, 1, none⟩ = some (.int .i64 0) := (Q3.cell (p := ⟨w.heap.size + 1, 1, none⟩) hz2).trans D2
  have F3 : w3.frozen? ⟨w.heap.size + 1, 0, none⟩ = false := (Q3.frozen (p := ⟨w.heap.size + 1, 0, none⟩) hz2).trans F2
  have G3 : w3.frozen? ⟨w.heap.size + 1, 1, none⟩ = false := (Q3.frozen (p := ⟨w.heap.size + 1, 1, none⟩) hz2).trans G2
  clear C2 D2 F2 G2 hz2 Q3
  clear hb3
  go_wp2_with fail
  clear x0 x1 x2 x3
  refine bodyPost_ret (v := .tuple #[.agg #[.int .i64 a3, .int .i64 b3], .bool true]) (by simp [results, Tryz.results12, go_sem, hz3, C3, D3]) rfl ⟨rfl, ?_⟩
  exact close_item (unhide B3) _ _ _

set_option maxHeartbeats 1000000 in
set_option maxRecDepth 100000 in
theorem readItem_4 (s : ByteArray) (a1 b1 : Int) (a2 b2 : Int) (a3 b3 : Int) (a4 b4 : Int) (w : World) (h1 : Rd 51 s a1 b1 false) (h2 : Rd 52 s a2 b2 false) (h3 : Rd 53 s a3 b3 false) (h4 : Rd 54 s a4 b4 true) :
    Calls Tryz.prog 12 #[formsV, .string s] w fun e w' => e = .returned (rV a4 b4 true) ∧ Below w.heap.size w w' := by
  have H1 := hide h1
  clear h1
  have H2 := hide h2
  clear h2
  have H3 := hide h3
  clear h3
  have H4 := hide h4
  clear h4
  have hx := index_forms
  unfold formsV at hx ⊢
  have x0 := fun w => (hx w).1
  have x1 := fun w => (hx w).2.1
  have x2 := fun w => (hx w).2.2.1
  have x3 := fun w => (hx w).2.2.2
  clear hx
  go_enter Tryz.func12, Tryz.ntmps12
  go_wp2_with fail
  refine wp_loop_rounds 4 ?_
  rw [rounds_succ]
  go_wp2_with fail
  refine (unhide H1 _).mono ?_
  rintro e w1 ⟨rfl, hb1⟩
  have B1 : Hid (Below w.heap.size w w1) := (((Below.refl _ _).alloc (Nat.le_refl _) _).alloc (by simp) _).trans (hb1.mono (by simp; omega))
  have hz1 : w.heap.size + 1 < w1.heap.size := by have := hb1.size; simp at this; omega
  have C1 := hb1.cell (p := ⟨w.heap.size + 1, 0, none⟩) (by simp)
  have D1 := hb1.cell (p := ⟨w.heap.size + 1, 1, none⟩) (by simp)
  have F1 := hb1.frozen (p := ⟨w.heap.size + 1, 0, none⟩) (by simp)
  have G1 := hb1.frozen (p := ⟨w.heap.size + 1, 1, none⟩) (by simp)
  simp at C1 D1 F1 G1
  clear hb1
  go_wp2_with fail
  rw [rounds_succ]
  go_wp2_with fail
  refine (unhide H2 _).mono ?_
  rintro e w2 ⟨rfl, hb2⟩
  have B2 : Hid (Below w.heap.size w w2) := ((unhide B1).alloc (unhide B1).size _).trans (hb2.mono (by simp; omega))
  have hz2 : w.heap.size + 1 < w2.heap.size := by have := hb2.size; simp at this; omega
  have Q2 : Below w1.heap.size w1 w2 := ((Below.refl _ _).alloc (Nat.le_refl _) _).trans (hb2.mono (by simp))
  have C2 : w2.cell? ⟨w.heap.size + 1, 0, none⟩ = some (.int .i64 0) := (Q2.cell (p := ⟨w.heap.size + 1, 0, none⟩) hz1).trans C1
  have D2 : w2.cell? ⟨w.heap.size + 1, 1, none⟩ = some (.int .i64 0) := (Q2.cell (p := ⟨w.heap.size + 1, 1, none⟩) hz1).trans D1
  have F2 : w2.frozen? ⟨w.heap.size + 1, 0, none⟩ = false := (Q2.frozen (p := ⟨w.heap.size + 1, 0, none⟩) hz1).trans F1
  have G2 : w2.frozen? ⟨w.heap.size + 1, 1, none⟩ = false := (Q2.frozen (p := ⟨w.heap.size + 1, 1, none⟩) hz1).trans G1
  clear C1 D1 F1 G1 hz1 Q2
  clear hb2
  go_wp2_with fail
  rw [rounds_succ]
  go_wp2_with fail
  refine (unhide H3 _).mono ?_
  rintro e w3 ⟨rfl, hb3⟩
  have B3 : Hid (Below w.heap.size w w3) := ((unhide B2).alloc (unhide B2).size _).trans (hb3.mono (by simp; omega))
  have hz3 : w.heap.size + 1 < w3.heap.size := by have := hb3.size; simp at this; omega
  have Q3 : Below w2.heap.size w2 w3 := ((Below.refl _ _).alloc (Nat.le_refl _) _).trans (hb3.mono (by simp))
  have C3 : w3.cell? ⟨w.heap.size + 1, 0, none⟩ = some (.int .i64 0) := (Q3.cell (p := ⟨w.heap.size + 1, 0, none⟩) hz2).trans C2
  have D3 : w3.cell? ⟨w.heap.size + 1, 1, none⟩ = some (.int .i64 0) := (Q3.cell (p := ⟨w.heap.size + 1, 1, none⟩) hz2).trans D2
  have F3 : w3.frozen? ⟨w.heap.size + 1, 0, none⟩ = false := (Q3.frozen (p := ⟨w.heap.size + 1, 0, none⟩) hz2).trans F2
  have G3 : w3.frozen? ⟨w.heap.size + 1, 1, none⟩ = false := (Q3.frozen (p := ⟨w.heap.size + 1, 1, none⟩) hz2).trans G2
  clear C2 D2 F2 G2 hz2 Q3
  clear hb3
  go_wp2_with fail
  rw [rounds_succ]
  go_wp2_with fail
  refine (unhide H4 _).mono ?_
  rintro e w4 ⟨rfl, hb4⟩
  have B4 : Hid (Below w.heap.size w w4) := ((unhide B3).alloc (unhide B3).size _).trans (hb4.mono (by simp; omega))
  have hz4 : w.heap.size + 1 < w4.heap.size := by have := hb4.size; simp at this; omega
  have Q4 : Below w3.heap.size w3 w4 := ((Below.refl _ _).alloc (Nat.le_refl _) _).trans (hb4.mono (by simp))
  have C4 : w4.cell? ⟨w.heap.size + 1, 0, none⟩ = some (.int .i64 0) := (Q4.cell (p := ⟨w.heap.size + 1, 0, none⟩) hz3).trans C3
  have D4 : w4.cell? ⟨w.heap.size + 1, 1, none⟩ = some (.int .i64 0) := (Q4.cell (p := ⟨w.heap.size + 1, 1, none⟩) hz3).trans D3
  have F4 : w4.frozen? ⟨w.heap.size + 1, 0, none⟩ = false := (Q4.frozen (p := ⟨w.heap.size + 1, 0, none⟩) hz3).trans F3
  have G4 : w4.frozen? ⟨w.heap.size + 1, 1, none⟩ = false := (Q4.frozen (p := ⟨w.heap.size + 1, 1, none⟩) hz3).trans G3
  clear C3 D3 F3 G3 hz3 Q4
  clear hb4
  go_wp2_with fail
  clear x0 x1 x2 x3
  refine bodyPost_ret (v := .tuple #[.agg #[.int .i64 a4, .int .i64 b4], .bool true]) (by simp [results, Tryz.results12, go_sem, hz4, C4, D4]) rfl ⟨rfl, ?_⟩
  exact close_item (unhide B4) _ _ _

set_option maxHeartbeats 1000000 in
set_option maxRecDepth 100000 in
theorem readItem_5 (s : ByteArray) (a1 b1 : Int) (a2 b2 : Int) (a3 b3 : Int) (a4 b4 : Int) (w : World) (h1 : Rd 51 s a1 b1 false) (h2 : Rd 52 s a2 b2 false) (h3 : Rd 53 s a3 b3 false) (h4 : Rd 54 s a4 b4 false) :
    Calls Tryz.prog 12 #[formsV, .string s] w fun e w' => e = .returned (rV 0 0 false) ∧ Below w.heap.size w w' := by
  have H1 := hide h1
  clear h1
  have H2 := hide h2
  clear h2
  have H3 := hide h3
  clear h3
  have H4 := hide h4
  clear h4
  have hx := index_forms
  unfold formsV at hx ⊢
  have x0 := fun w => (hx w).1
  have x1 := fun w => (hx w).2.1
  have x2 := fun w => (hx w).2.2.1
  have x3 := fun w => (hx w).2.2.2
  clear hx
  go_enter Tryz.func12, Tryz.ntmps12
  go_wp2_with fail
  refine wp_loop_rounds 5 ?_
  rw [rounds_succ]
  go_wp2_with fail
  refine (unhide H1 _).mono ?_
  rintro e w1 ⟨rfl, hb1⟩
  have B1 : Hid (Below w.heap.size w w1) := (((Below.refl _ _).alloc (Nat.le_refl _) _).alloc (by simp) _).trans (hb1.mono (by simp; omega))
  have hz1 : w.heap.size + 1 < w1.heap.size := by have := hb1.size; simp at this; omega
  have C1 := hb1.cell (p := ⟨w.heap.size + 1, 0, none⟩) (by simp)
  have D1 := hb1.cell (p := ⟨w.heap.size + 1, 1, none⟩) (by simp)
  have F1 := hb1.frozen (p := ⟨w.heap.size + 1, 0, none⟩) (by simp)
  have G1 := hb1.frozen (p := ⟨w.heap.size + 1, 1, none⟩) (by simp)
  simp at C1 D1 F1 G1
  clear hb1
  go_wp2_with fail
  rw [rounds_succ]
  go_wp2_with fail
  refine (unhide H2 _).mono ?_
  rintro e w2 ⟨rfl, hb2⟩
  have B2 : Hid (Below w.heap.size w w2) := ((unhide B1).alloc (unhide B1).size _).trans (hb2.mono (by simp; omega))
  have hz2 : w.heap.size + 1 < w2.heap.size := by have := hb2.size; simp at this; omega
  have Q2 : Below w1.heap.size w1 w2 := ((Below.refl _ _).alloc (Nat.le_refl _) _).trans (hb2.mono (by simp))
  have C2 : w2.cell? ⟨w.heap.size + 1, 0, none⟩ = some (.int .i64 0) := (Q2.cell (p := ⟨w.heap.size + 1, 0, none⟩) hz1).trans C1
  have D2 : w2.cell? ⟨w.heap.size + 1, 1, none⟩ = some (.int .i64 0) := (Q2.cell (p := ⟨w.heap.size + 1, 1, none⟩) hz1).trans D1
  have F2 : w2.frozen? ⟨w.heap.size + 1, 0, none⟩ = false := (Q2.frozen (p := ⟨w.heap.size + 1, 0, none⟩) hz1).trans F1
  have G2 : w2.frozen? ⟨w.heap.size + 1, 1, none⟩ = false := (Q2.frozen (p := ⟨w.heap.size + 1, 1, none⟩) hz1).trans G1
  clear C1 D1 F1 G1 hz1 Q2
  clear hb2
  go_wp2_with fail
  rw [rounds_succ]
  go_wp2_with fail
  refine (unhide H3 _).mono ?_
  rintro e w3 ⟨rfl, hb3⟩
  have B3 : Hid (Below w.heap.size w w3) := ((unhide B2).alloc (unhide B2).size _).trans (hb3.mono (by simp; omega))
  have hz3 : w.heap.size + 1 < w3.heap.size := by have := hb3.size; simp at this; omega
  have Q3 : Below w2.heap.size w2 w3 := ((Below.refl _ _).alloc (Nat.le_refl _) _).trans (hb3.mono (by simp))
  have C3 : w3.cell? ⟨w.heap.size + 1, 0, none⟩ = some (.int .i64 0) := (Q3.cell (p := ⟨w.heap.size + 1, 0, none⟩) hz2).trans C2
  have D3 : w3.cell? ⟨w.heap.size + 1, 1, none⟩ = some (.int .i64 0) := (Q3.cell (p := ⟨w.heap.size + 1, 1, none⟩) hz2).trans D2
  have F3 : w3.frozen? ⟨w.heap.size + 1, 0, none⟩ = false := (Q3.frozen (p := ⟨w.heap.size + 1, 0, none⟩) hz2).trans F2
  have G3 : w3.frozen? ⟨w.heap.size + 1, 1, none⟩ = false := (Q3.frozen (p := ⟨w.heap.size + 1, 1, none⟩) hz2).trans G2
  clear C2 D2 F2 G2 hz2 Q3
  clear hb3
  go_wp2_with fail
  rw [rounds_succ]
  go_wp2_with fail
  refine (unhide H4 _).mono ?_
  rintro e w4 ⟨rfl, hb4⟩
  have B4 : Hid (Below w.heap.size w w4) := ((unhide B3).alloc (unhide B3).size _).trans (hb4.mono (by simp; omega))
  have hz4 : w.heap.size + 1 < w4.heap.size := by have := hb4.size; simp at this; omega
  have Q4 : Below w3.heap.size w3 w4 := ((Below.refl _ _).alloc (Nat.le_refl _) _).trans (hb4.mono (by simp))
  have C4 : w4.cell? ⟨w.heap.size + 1, 0, none⟩ = some (.int .i64 0) := (Q4.cell (p := ⟨w.heap.size + 1, 0, none⟩) hz3).trans C3
  have D4 : w4.cell? ⟨w.heap.size + 1, 1, none⟩ = some (.int .i64 0) := (Q4.cell (p := ⟨w.heap.size + 1, 1, none⟩) hz3).trans D3
  have F4 : w4.frozen? ⟨w.heap.size + 1, 0, none⟩ = false := (Q4.frozen (p := ⟨w.heap.size + 1, 0, none⟩) hz3).trans F3
  have G4 : w4.frozen? ⟨w.heap.size + 1, 1, none⟩ = false := (Q4.frozen (p := ⟨w.heap.size + 1, 1, none⟩) hz3).trans G3
  clear C3 D3 F3 G3 hz3 Q4
  clear hb4
  go_wp2_with fail
  rw [rounds_succ]
  go_wp2_with fail
  clear x0 x1 x2 x3
  refine bodyPost_ret (v := .tuple #[.agg #[.int .i64 0, .int .i64 0], .bool false]) (by simp [results, Tryz.results12, go_sem, hz4, C4, D4]) rfl ⟨rfl, ?_⟩
  exact close_item (unhide B4) _ _ _

def itemV (s : List UInt8) : Value := match item s with
  | none => rV 0 0 false
  | some r => rV r.1 r.2 true
theorem itemV_no {s : List UInt8} (h : item s = none) : itemV s = rV 0 0 false := by unfold itemV; rw [h]
theorem itemV_yes {s : List UInt8} {r : R} (h : item s = some r) : itemV s = rV r.1 r.2 true := by unfold itemV; rw [h]

theorem readItem_any (s : ByteArray) (w : World) (hs : s.size ≤ 4611686018427387904) :
    Calls Tryz.prog 12 #[formsV, .string s] w fun e w' => e = .returned (itemV (bs s)) ∧ Below w.heap.size w w' := by
  have hr := item_read (bs s)
  unfold read4 at hr
  have R1 : Rd 51 s (place (bs s)) (place (bs s)) (decide (place (bs s) ≠ 0)) := fun w => readOne_is w hs rfl rfl
  have R2 : Rd 52 s (place (cutL (bs s))) (place (cutR (bs s))) (bothOk (bs s)) := fun w => readBoth_is w hs rfl rfl rfl rfl rfl
  have R3 : Rd 53 s (place (Lib.trimSuffix (bs s) [45])) 0 (fromOk (bs s)) := fun w => readFrom_is (d := ⟨(Lib.trimSuffix (bs s) [45]).toArray⟩) w hs rfl (by
    show (Lib.trimSuffix (bs s) [45]).length ≤ (bs s).length
    unfold Lib.trimSuffix; split <;> simp) rfl rfl rfl
  have R4 : Rd 54 s 1 (place (Lib.trimPrefix (bs s) [45])) (toOk (bs s)) := fun w => readTo_is (d := ⟨(Lib.trimPrefix (bs s) [45]).toArray⟩) w hs rfl (by
    show (Lib.trimPrefix (bs s) [45]).length ≤ (bs s).length
    unfold Lib.trimPrefix; split <;> simp) rfl rfl rfl
  cases h1 : decide (place (bs s) ≠ 0)
  · rw [h1] at R1 hr
    cases h2 : bothOk (bs s)
    · rw [h2] at R2 hr
      cases h3 : fromOk (bs s)
      · rw [h3] at R3 hr
        cases h4 : toOk (bs s)
        · rw [h4] at R4 hr
          rw [itemV_no (by simpa using hr)]
          exact readItem_5 s _ _ _ _ _ _ _ _ w R1 R2 R3 R4
        · rw [h4] at R4 hr
          rw [itemV_yes (by simpa using hr)]
          exact readItem_4 s _ _ _ _ _ _ _ _ w R1 R2 R3 R4
      · rw [h3] at R3 hr
        rw [itemV_yes (by simpa using hr)]
        exact readItem_3 s _ _ _ _ _ _ w R1 R2 R3
    · rw [h2] at R2 hr
      rw [itemV_yes (by simpa using hr)]
      exact readItem_2 s _ _ _ _ w R1 R2
  · rw [h1] at R1 hr
    rw [itemV_yes (by simpa using hr)]
    exact readItem_1 s _ _ w R1
end Go.Proofs.YtijoemamnkhhnaaGreatDoor.Ls
