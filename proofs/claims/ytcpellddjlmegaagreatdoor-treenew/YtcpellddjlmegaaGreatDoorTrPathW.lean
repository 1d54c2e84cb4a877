/- What Depth and Path answer. -/
import Derived.Test.YtcpellddjlmegaaGreatDoorTrPath
namespace Go.Proofs.YtcpellddjlmegaaGreatDoor.Tr
open Go.RowKit Go.Proofs.YtcpellddjlmegaaGreatDoor.Cu

theorem nd_out {ns : List Nd} {i : Nat} (h : ns.length ≤ i) : nd ns i = nz := by
  unfold nd; simp [List.getD, List.getElem?_eq_none h]
theorem kind_list {n : Nd} (h : kindP n = true) : (n.kind = 2 ∧ listP n.list = true) ∨ (n.kind ≠ 2 ∧ n.list = []) := by
  unfold kindP at h
  have hno : noListP n = true → n.list = [] := fun h => by
    unfold noListP at h
    simp only [Bool.and_eq_true, decide_eq_true_eq] at h
    exact List.eq_nil_of_length_eq_zero h.1
  split at h
  · rename_i e
    right
    unfold freeP at h
    simp only [Bool.and_eq_true] at h
    exact ⟨by rw [e]; decide, hno h.2⟩
  split at h
  · rename_i e
    right
    unfold fileP at h
    simp only [Bool.and_eq_true] at h
    exact ⟨by rw [e]; decide, hno h.2⟩
  split at h
  · rename_i e
    left
    unfold dirP at h
    simp only [Bool.and_eq_true] at h
    exact ⟨e, h.1.1.2⟩
  split at h
  · rename_i e
    right
    unfold linkP at h
    simp only [Bool.and_eq_true] at h
    exact ⟨by rw [e]; decide, hno h.2⟩
  · cases h
theorem lists_small {now : Int} {ns : List Nd} (h : checkP now ns = true) (i : Nat) : (nd ns i).list.length ≤ 512 := by
  by_cases hi : i < ns.length
  · rcases kind_list ((checkP_parts h).2.2.2.2.2.1 i hi) with ⟨_, h2⟩ | ⟨_, h2⟩
    · unfold listP at h2
      simp only [Bool.and_eq_true, decide_eq_true_eq] at h2
      exact h2.1
    · rw [h2]; simp
  · rw [nd_out (by omega)]; simp
theorem names_ok {now : Int} {ns : List Nd} (h : checkP now ns = true) (i : Nat) : ∀ e ∈ (nd ns i).list, nameP e.name = true := by
  intro e he
  by_cases hi : i < ns.length
  · rcases kind_list ((checkP_parts h).2.2.2.2.2.1 i hi) with ⟨_, h2⟩ | ⟨_, h2⟩
    · unfold listP at h2
      simp only [Bool.and_eq_true, decide_eq_true_eq] at h2
      obtain ⟨k, hk, rfl⟩ := List.getElem_of_mem he
      have := allTo_true.1 h2.2 k hk
      unfold okE at this
      simp only [Bool.and_eq_true] at this
      have e1 : en (nd ns i).list k = (nd ns i).list[k] := by simp [en, List.getD, List.getElem?_eq_getElem hk]
      rw [e1] at this; exact this.1
    · rw [h2] at he; simp at he
  · rw [nd_out (by omega)] at he; simp at he
theorem nameP_size {s : ByteArray} (h : nameP s = true) : 1 ≤ s.size ∧ s.size ≤ 64 := by
  unfold nameP at h
  simp only [Bool.and_eq_true, decide_eq_true_eq] at h
  exact ⟨h.1.1.1.1.1, h.1.1.1.1.2⟩
theorem namesUp_ok {now : Int} {ns : List Nd} (h : checkP now ns = true) : ∀ s d, (∀ x ∈ namesUp ns s d, nameP x = true) ∧ (namesUp ns s d).length ≤ s * 512 := by
  intro s
  induction s with
  | zero => intro d; simp [namesUp]
  | succ s ih =>
    intro d
    obtain ⟨h1, h2⟩ := ih (nd ns d).parent.toNat
    unfold namesUp
    constructor
    · intro x hx
      rcases List.mem_append.1 hx with hx | hx
      · unfold hits at hx
        obtain ⟨e, he, rfl⟩ := List.mem_map.1 hx
        exact names_ok h _ e (List.mem_filter.1 he).1
      · exact h1 x hx
    · rw [List.length_append]
      have := hits_len (nd ns (nd ns d).parent.toNat).list d
      have := lists_small h (nd ns d).parent.toNat
      omega
theorem dir_up {now : Int} {ns : List Nd} {i : Nat} (h : isDirP now ns (i : Int) = true) : Up ns (depN ns 32 i) i ∧ depN ns 32 i ≤ 32 := by
  obtain ⟨h1, h2, h3, h4, _⟩ := dir_list h
  obtain ⟨s, hs, hu⟩ := ((hung_check h1).good i h3 h4).2
  rw [depN_up hu 32 hs]; exact ⟨hu, hs⟩
/-- the names that lead to a directory -/
def namesTo (ns : List Nd) (i : Nat) : List ByteArray := (namesUp ns (depN ns 32 i) i).reverse
def depthV (now : Int) (ns : List Nd) (i : Int) : Int := if isDirP now ns i then ((namesTo ns i.toNat).length : Int) else 0
def joined (ns : List Nd) (i : Nat) : ByteArray := ⟨(Lib.join ((namesTo ns i).map (·.data.toList)) [47]).toArray⟩
def pathV (now : Int) (ns : List Nd) (i : Int) : Value := if isDirP now ns i then .tuple #[.string (⟨#[47]⟩ ++ joined ns i.toNat), .int .i64 0] else .tuple #[.string ⟨#[]⟩, .int .i64 1]
theorem lens_le (l : List ByteArray) (h : ∀ x ∈ l, x.size ≤ 64) : Lib.lens (l.map (·.data.toList)) ≤ l.length * 64 := by
  induction l with
  | nil => simp [Lib.lens]
  | cons x l ih =>
    have h1 := ih fun y hy => h y (by simp [hy])
    have h2 := h x (by simp)
    have h3 : (x.data.toList).length = x.size := rfl
    have : Lib.lens (((x :: l).map (·.data.toList))) = x.data.toList.length + Lib.lens (l.map (·.data.toList)) := by simp [Lib.lens]
    rw [this, List.length_cons]; omega
theorem join_le (l : List ByteArray) (h : ∀ x ∈ l, x.size ≤ 64) : (Lib.join (l.map (·.data.toList)) [47]).length ≤ l.length * 65 := by
  cases l with
  | nil => simp [Lib.join_nil]
  | cons x l =>
    rw [List.map_cons, Lib.join_length]
    have := lens_le (x :: l) h
    rw [List.map_cons] at this
    simp at this ⊢
    omega
theorem namesTo_len {now : Int} {ns : List Nd} {i : Nat} (h : isDirP now ns (i : Int) = true) : (∀ x ∈ namesTo ns i, nameP x = true) ∧ (namesTo ns i).length ≤ 16384 := by
  have h1 := (dir_list h).1
  have h2 := (dir_up h).2
  obtain ⟨a, b⟩ := namesUp_ok h1 (depN ns 32 i) i
  unfold namesTo
  exact ⟨fun x hx => a x (List.mem_reverse.1 hx), by rw [List.length_reverse]; omega⟩
theorem joined_size {now : Int} {ns : List Nd} {i : Nat} (h : isDirP now ns (i : Int) = true) : (Lib.join ((namesTo ns i).map (·.data.toList)) [47]).length ≤ 2000000 := by
  obtain ⟨a, b⟩ := namesTo_len h
  have := join_le (namesTo ns i) fun x hx => (nameP_size (a x hx)).2
  omega
theorem namesAny {a : Option Addr} {n cap : Nat} {ns : List Nd} {now : Int} {i : Nat} {w : World} (h : Ng w a n cap ns) (hq : isDirP now ns (i : Int) = true) :
    Calls Tryz.prog 93 #[.agg #[.slice a n cap, .int .i64 now], .int .i64 i] w fun e w' => (∃ v, e = .returned v ∧ Nm w' w.heap.size v (namesTo ns i)) ∧ Below w.heap.size w w' :=
  namesTo_any a n cap ns now i (depN ns 32 i) w h (by rw [← h.len]; exact (checkP_parts (dir_list hq).1).1) (fun j => Nat.le_trans (lists_small (dir_list hq).1 j) (by decide)) (dir_up hq).1 (dir_up hq).2
theorem joinAny {B : Nat} {v : Value} {l : List ByteArray} {w : World} (h : Nm w B v l) (hl : l.length ≤ 1000000) (hj : (Lib.join (l.map (·.data.toList)) [47]).length ≤ 2000000) :
    Calls Tryz.prog 92 #[v, .string ⟨#[47]⟩] w fun e w' => e = .returned (.string ⟨(Lib.join (l.map (·.data.toList)) [47]).toArray⟩) ∧ Below w.heap.size w w' := by
  obtain ⟨av, cv, rfl, hle, hc⟩ := h
  rcases hc with h0 | ⟨g, rfl, _, hg, hc⟩
  · obtain rfl : l = [] := List.eq_nil_of_length_eq_zero h0
    exact (Tryz.strings_Join_none av cv ⟨#[47]⟩ w).mono fun e w' h => ⟨h.1, by rw [h.2]; exact Below.refl _ _⟩
  · exact Tryz.strings_Join g 0 cv l ⟨#[47]⟩ w (fun j x hx => by rw [Nat.zero_add]; exact hc j x hx) hg (by omega) hle (Nat.le_trans hj (by decide))
theorem isDir_nat {now : Int} {ns : List Nd} {i : Int} (hq : isDirP now ns i = true) : ∃ k : Nat, i = (k : Int) := by
  unfold isDirP nodeP at hq
  simp only [Bool.and_eq_true, decide_eq_true_eq] at hq
  have := hq.1.1.1.2
  exact ⟨i.toNat, by omega⟩
set_option maxRecDepth 100000 in
set_option maxHeartbeats 1000000 in
theorem depth_any (a : Option Addr) (n cap : Nat) (ns : List Nd) (now i : Int) (w : World) (h : Ng w a n cap ns) (hs : Sm ns) :
    Calls Tryz.prog 58 #[.agg #[.slice a n cap, .int .i64 now], .int .i64 i] w fun e w' => e = .returned (.int .i64 (depthV now ns i)) ∧ Below w.heap.size w w' := by
  have HC : Hid (∀ W, Below w.heap.size w W → Calls Tryz.prog 91 #[.agg #[.slice a n cap, .int .i64 now], .int .i64 i] W fun e w' => e = .returned (.bool (isDirP now ns i)) ∧ Below W.heap.size W w') := fun W hW => isDir_any a n cap ns now i W (h.below hW) hs
  have hb0 : Hid (Below w.heap.size w (w.alloc (.cells #[.slice a n cap, .int .i64 now] 38))) := (Below.refl _ _).alloc (Nat.le_refl _) _
  unfold depthV
  cases hq : isDirP now ns i with
  | false =>
    rw [hq] at HC
    clear hq h hs
    simp only [Bool.false_eq_true, if_false]
    go_enter Tryz.func58, Tryz.ntmps58
    go_wp2_with fail
    refine (unhide HC _ (unhide hb0)).mono ?_
    rintro e w1 ⟨rfl, b1⟩
    have hB := hide (box_keep b1).2.1
    clear b1 HC
    go_wp2
    go_ret
    exact ⟨rfl, unhide hB⟩
  | true =>
    rw [hq] at HC
    simp only [if_true]
    obtain ⟨k, rfl⟩ := isDir_nat hq
    rw [Int.toNat_natCast]
    have HN : Hid (∀ W, Below w.heap.size w W → Calls Tryz.prog 93 #[.agg #[.slice a n cap, .int .i64 now], .int .i64 k] W fun e w' => (∃ v, e = .returned v ∧ Nm w' W.heap.size v (namesTo ns k)) ∧ Below W.heap.size W w') := fun W hW => namesAny (h.below hW) hq
    generalize namesTo ns k = L at *
    clear h hs hq
    go_enter Tryz.func58, Tryz.ntmps58
    go_wp2_with fail
    refine (unhide HC _ (unhide hb0)).mono ?_
    rintro e w1 ⟨rfl, b1⟩
    have hB := hide (box_keep b1).2.1
    have c0 : w1.cell? ⟨w.heap.size, 0, none⟩ = some (.slice a n cap) := by rw [cell_of_row _ _ _ _ _ _ (box_keep b1).1]; rfl
    have c1 : w1.cell? ⟨w.heap.size, 1, none⟩ = some (.int .i64 now) := by rw [cell_of_row _ _ _ _ _ _ (box_keep b1).1]; rfl
    clear b1 HC
    go_wp2_with fail
    refine (unhide HN _ (unhide hB)).mono ?_
    rintro e w2 ⟨⟨v, rfl, av, cv, rfl, hle, -⟩, b2⟩
    have hB2 := hide ((unhide hB).trans (b2.mono (unhide hB).size))
    clear b2 HN c0 c1
    go_wp2
    go_ret
    exact ⟨rfl, unhide hB2⟩
set_option maxRecDepth 100000 in
set_option maxHeartbeats 1000000 in
theorem path_any (a : Option Addr) (n cap : Nat) (ns : List Nd) (now i : Int) (w : World) (h : Ng w a n cap ns) (hs : Sm ns) :
    Calls Tryz.prog 56 #[.agg #[.slice a n cap, .int .i64 now], .int .i64 i] w fun e w' => e = .returned (pathV now ns i) ∧ Below w.heap.size w w' := by
  have HC : Hid (∀ W, Below w.heap.size w W → Calls Tryz.prog 91 #[.agg #[.slice a n cap, .int .i64 now], .int .i64 i] W fun e w' => e = .returned (.bool (isDirP now ns i)) ∧ Below W.heap.size W w') := fun W hW => isDir_any a n cap ns now i W (h.below hW) hs
  have hb0 : Hid (Below w.heap.size w (w.alloc (.cells #[.slice a n cap, .int .i64 now] 38))) := (Below.refl _ _).alloc (Nat.le_refl _) _
  unfold pathV
  cases hq : isDirP now ns i with
  | false =>
    rw [hq] at HC
    clear hq h hs
    simp only [Bool.false_eq_true, if_false]
    go_enter Tryz.func56, Tryz.ntmps56
    go_wp2_with fail
    refine (unhide HC _ (unhide hb0)).mono ?_
    rintro e w1 ⟨rfl, b1⟩
    have hB := hide (box_keep b1).2.1
    clear b1 HC
    go_wp2
    go_ret2
    exact ⟨rfl, unhide hB⟩
  | true =>
    rw [hq] at HC
    simp only [if_true]
    obtain ⟨k, rfl⟩ := isDir_nat hq
    rw [Int.toNat_natCast]
    have HN : Hid (∀ W, Below w.heap.size w W → Calls Tryz.prog 93 #[.agg #[.slice a n cap, .int .i64 now], .int .i64 k] W fun e w' => (∃ v, e = .returned v ∧ Nm w' W.heap.size v (namesTo ns k)) ∧ Below W.heap.size W w') := fun W hW => namesAny (h.below hW) hq
    have HJ : Hid (∀ W B v, Nm W B v (namesTo ns k) → Calls Tryz.prog 92 #[v, .string ⟨#[47]⟩] W fun e w' => e = .returned (.string (joined ns k)) ∧ Below W.heap.size W w') := fun W B v hN => joinAny hN (by have := (namesTo_len hq).2; omega) (joined_size hq)
    have hjs : (joined ns k).size ≤ 2000000 := joined_size hq
    generalize joined ns k = J at *
    generalize namesTo ns k = L at *
    clear h hs hq
    have hjs' : ((⟨#[47]⟩ : ByteArray).size : Int) + (J.size : Int) ≤ 9223372036854775807 := by
      have : (⟨#[47]⟩ : ByteArray).size = 1 := rfl
      rw [this]; omega
    go_enter Tryz.func56, Tryz.ntmps56
    go_wp2_with fail
    refine (unhide HC _ (unhide hb0)).mono ?_
    rintro e w1 ⟨rfl, b1⟩
    have hB := hide (box_keep b1).2.1
    have c0 : w1.cell? ⟨w.heap.size, 0, none⟩ = some (.slice a n cap) := by rw [cell_of_row _ _ _ _ _ _ (box_keep b1).1]; rfl
    have c1 : w1.cell? ⟨w.heap.size, 1, none⟩ = some (.int .i64 now) := by rw [cell_of_row _ _ _ _ _ _ (box_keep b1).1]; rfl
    clear b1 HC
    go_wp2_with fail
    refine (unhide HN _ (unhide hB)).mono ?_
    rintro e w2 ⟨⟨v, rfl, hv⟩, b2⟩
    have hB2 := hide ((unhide hB).trans (b2.mono (unhide hB).size))
    have HJ2 := hide (unhide HJ _ _ _ hv)
    clear b2 HN c0 c1 hv HJ
    go_wp2_with fail
    refine (unhide HJ2).mono ?_
    rintro e w3 ⟨rfl, b3⟩
    have hB3 := hide ((unhide hB2).trans (b3.mono (unhide hB2).size))
    clear b3 HJ2
    go_wp2
    go_ret2
    exact ⟨rfl, unhide hB3⟩
end Go.Proofs.YtcpellddjlmegaaGreatDoor.Tr
