import Derived.Test.YtidhceebafmlkaaGreatDoorTrList
namespace Go.Proofs.YtidhceebafmlkaaGreatDoor.Tr
open Go.RowKit Cu
theorem empty_is {t : ByteArray} (h : t.size = 0) : t = ⟨#[]⟩ := ba_ext (List.eq_nil_of_length_eq_zero h)
theorem empty_no {t : ByteArray} (h : ¬ t.size = 0) : ¬ t.toList = [] := by
  intro e
  rw [ByteArray.toList_eq] at e
  exact h (by rw [← bs_len]; unfold bs; rw [e]; rfl)
theorem emptyB_no {t : ByteArray} (h : ¬ t.size = 0) : emptyB t = false := by simp [emptyB, h]
set_option maxRecDepth 100000 in
set_option maxHeartbeats 2000000 in
theorem mayBeFree_any (n : Nd) (da : Option Addr) (dl dc : Nat) (la : Option Addr) (ll lc : Nat) (w : World) (hd : n.data.length = dl) (hl : n.list.length = ll) (_hg : Eg w la ll lc n.list) : Calls Tryz.prog 229 #[.agg (na n (.slice da dl dc) (.slice la ll lc))] w fun e w' => e = .returned (.bool (freeP n)) ∧ Below w.heap.size w w' := by
  have HO : Hid (∀ W, Calls Tryz.prog 260 #[.agg (na n (.slice da dl dc) (.slice la ll lc))] W fun e w' => e = .returned (.bool (hasOwnerP n)) ∧ w' = W.alloc (.cells (na n (.slice da dl dc) (.slice la ll lc)) 82)) := fun W => hasOwner_any n da dl dc la ll lc W hd hl
  have HN : Hid (∀ W, Calls Tryz.prog 259 #[.agg (na n (.slice da dl dc) (.slice la ll lc))] W fun e w' => e = .returned (.bool (noListP n)) ∧ w' = W.alloc (.cells (na n (.slice da dl dc) (.slice la ll lc)) 82)) := fun W => hasNoList_any n da dl dc la ll lc W hd hl
  have HT : Hid (∀ W, Calls Tryz.prog 262 #[.string n.target] W fun e w' => e = .returned (.bool (targetP n.target)) ∧ w' = W) := fun W => isTarget_any n.target W
  have HB1 : Hid (∀ o, Below w.heap.size w (w.alloc o)) := fun o => (Below.refl _ w).alloc (Nat.le_refl _) o
  have HB2 : Hid (∀ o1 o2, Below w.heap.size w ((w.alloc o1).alloc o2)) := fun o1 o2 => (uh HB1 o1).alloc (by simp) _
  have HB3 : Hid (∀ o1 o2 o3, Below w.heap.size w (((w.alloc o1).alloc o2).alloc o3)) := fun o1 o2 o3 => (uh HB2 o1 o2).alloc (by simp; omega) _
  have hP : freeP n = (decide (n.mode = 0) && decide (n.user = 0) && decide (n.group = 0) && decide (n.links = 0) && decide (n.time = 0) && decide (dl = 0) && emptyB n.target && noListP n) := by rw [← hd]; rfl
  rw [hP]
  clear hP
  generalize noListP n = qn at *
  generalize hasOwnerP n = qo at *
  obtain ⟨kd, md, us, gr, lk, ti, dt, tg, ls, pa⟩ := n
  unfold na at *
  simp only at hd hl HO HN HT ⊢
  clear hd hl
  by_cases a0 : md = 0
  case neg =>
    rw [show decide (md = 0) = false by simp [a0]]
    simp only [Bool.false_and]
    go_enter Tryz.func229, Tryz.ntmps229
    go_wp2_with (first | (go_at_call 260; refine (uh HO _).mono ?_; rintro e w' ⟨rfl, rfl⟩) | (go_at_call 259; refine (uh HN _).mono ?_; rintro e w' ⟨rfl, rfl⟩) | (go_at_call 262; refine (uh HT _).mono ?_; rintro e w' ⟨rfl, rfl⟩))
    go_ret
    exact ⟨rfl, by first | exact uh HB1 _ | exact uh HB2 _ _ | exact uh HB3 _ _ _⟩
  subst a0
  by_cases a1 : us = 0
  case neg =>
    rw [show decide (us = 0) = false by simp [a1]]
    simp only [Bool.false_and, Bool.and_false]
    go_enter Tryz.func229, Tryz.ntmps229
    go_wp2_with (first | (go_at_call 260; refine (uh HO _).mono ?_; rintro e w' ⟨rfl, rfl⟩) | (go_at_call 259; refine (uh HN _).mono ?_; rintro e w' ⟨rfl, rfl⟩) | (go_at_call 262; refine (uh HT _).mono ?_; rintro e w' ⟨rfl, rfl⟩))
    go_ret
    exact ⟨rfl, by first | exact uh HB1 _ | exact uh HB2 _ _ | exact uh HB3 _ _ _⟩
  subst a1
  by_cases a2 : gr = 0
  case neg =>
    rw [show decide (gr = 0) = false by simp [a2]]
    simp only [Bool.false_and, Bool.and_false]
    go_enter Tryz.func229, Tryz.ntmps229
    go_wp2_with (first | (go_at_call 260; refine (uh HO _).mono ?_; rintro e w' ⟨rfl, rfl⟩) | (go_at_call 259; refine (uh HN _).mono ?_; rintro e w' ⟨rfl, rfl⟩) | (go_at_call 262; refine (uh HT _).mono ?_; rintro e w' ⟨rfl, rfl⟩))
    go_ret
    exact ⟨rfl, by first | exact uh HB1 _ | exact uh HB2 _ _ | exact uh HB3 _ _ _⟩
  subst a2
  by_cases a3 : lk = 0
  case neg =>
    rw [show decide (lk = 0) = false by simp [a3]]
    simp only [Bool.false_and, Bool.and_false]
    go_enter Tryz.func229, Tryz.ntmps229
    go_wp2_with (first | (go_at_call 260; refine (uh HO _).mono ?_; rintro e w' ⟨rfl, rfl⟩) | (go_at_call 259; refine (uh HN _).mono ?_; rintro e w' ⟨rfl, rfl⟩) | (go_at_call 262; refine (uh HT _).mono ?_; rintro e w' ⟨rfl, rfl⟩))
    go_ret
    exact ⟨rfl, by first | exact uh HB1 _ | exact uh HB2 _ _ | exact uh HB3 _ _ _⟩
  subst a3
  by_cases a4 : ti = 0
  case neg =>
    rw [show decide (ti = 0) = false by simp [a4]]
    simp only [Bool.false_and, Bool.and_false]
    go_enter Tryz.func229, Tryz.ntmps229
    go_wp2_with (first | (go_at_call 260; refine (uh HO _).mono ?_; rintro e w' ⟨rfl, rfl⟩) | (go_at_call 259; refine (uh HN _).mono ?_; rintro e w' ⟨rfl, rfl⟩) | (go_at_call 262; refine (uh HT _).mono ?_; rintro e w' ⟨rfl, rfl⟩))
    go_ret
    exact ⟨rfl, by first | exact uh HB1 _ | exact uh HB2 _ _ | exact uh HB3 _ _ _⟩
  subst a4
  by_cases a6 : dl = 0
  case neg =>
    rw [show decide (dl = 0) = false by simp [a6]]
    simp only [Bool.false_and, Bool.and_false]
    have a7 : ¬ (dl : Int) = 0 := by omega
    clear a6
    go_enter Tryz.func229, Tryz.ntmps229
    go_wp2_with (first | (go_at_call 260; refine (uh HO _).mono ?_; rintro e w' ⟨rfl, rfl⟩) | (go_at_call 259; refine (uh HN _).mono ?_; rintro e w' ⟨rfl, rfl⟩) | (go_at_call 262; refine (uh HT _).mono ?_; rintro e w' ⟨rfl, rfl⟩))
    go_ret
    exact ⟨rfl, by first | exact uh HB1 _ | exact uh HB2 _ _ | exact uh HB3 _ _ _⟩
  subst a6
  by_cases a8 : tg.size = 0
  case neg =>
    rw [emptyB_no a8]
    simp only [Bool.false_and, Bool.and_false]
    have a9 := empty_no a8
    clear a8
    go_enter Tryz.func229, Tryz.ntmps229
    go_wp2_with (first | (go_at_call 260; refine (uh HO _).mono ?_; rintro e w' ⟨rfl, rfl⟩) | (go_at_call 259; refine (uh HN _).mono ?_; rintro e w' ⟨rfl, rfl⟩) | (go_at_call 262; refine (uh HT _).mono ?_; rintro e w' ⟨rfl, rfl⟩))
    go_ret
    exact ⟨rfl, by first | exact uh HB1 _ | exact uh HB2 _ _ | exact uh HB3 _ _ _⟩
  obtain rfl := empty_is a8
  clear a8
  go_enter Tryz.func229, Tryz.ntmps229
  go_wp2_with (first | (go_at_call 260; refine (uh HO _).mono ?_; rintro e w' ⟨rfl, rfl⟩) | (go_at_call 259; refine (uh HN _).mono ?_; rintro e w' ⟨rfl, rfl⟩) | (go_at_call 262; refine (uh HT _).mono ?_; rintro e w' ⟨rfl, rfl⟩))
  go_ret
  exact ⟨rfl, by first | exact uh HB1 _ | exact uh HB2 _ _ | exact uh HB3 _ _ _⟩
set_option maxRecDepth 100000 in
set_option maxHeartbeats 2000000 in
theorem mayBeFile_any (n : Nd) (da : Option Addr) (dl dc : Nat) (la : Option Addr) (ll lc : Nat) (w : World) (hd : n.data.length = dl) (hl : n.list.length = ll) (_hg : Eg w la ll lc n.list) : Calls Tryz.prog 230 #[.agg (na n (.slice da dl dc) (.slice la ll lc))] w fun e w' => e = .returned (.bool (fileP n)) ∧ Below w.heap.size w w' := by
  have HO : Hid (∀ W, Calls Tryz.prog 260 #[.agg (na n (.slice da dl dc) (.slice la ll lc))] W fun e w' => e = .returned (.bool (hasOwnerP n)) ∧ w' = W.alloc (.cells (na n (.slice da dl dc) (.slice la ll lc)) 82)) := fun W => hasOwner_any n da dl dc la ll lc W hd hl
  have HN : Hid (∀ W, Calls Tryz.prog 259 #[.agg (na n (.slice da dl dc) (.slice la ll lc))] W fun e w' => e = .returned (.bool (noListP n)) ∧ w' = W.alloc (.cells (na n (.slice da dl dc) (.slice la ll lc)) 82)) := fun W => hasNoList_any n da dl dc la ll lc W hd hl
  have HT : Hid (∀ W, Calls Tryz.prog 262 #[.string n.target] W fun e w' => e = .returned (.bool (targetP n.target)) ∧ w' = W) := fun W => isTarget_any n.target W
  have HB1 : Hid (∀ o, Below w.heap.size w (w.alloc o)) := fun o => (Below.refl _ w).alloc (Nat.le_refl _) o
  have HB2 : Hid (∀ o1 o2, Below w.heap.size w ((w.alloc o1).alloc o2)) := fun o1 o2 => (uh HB1 o1).alloc (by simp) _
  have HB3 : Hid (∀ o1 o2 o3, Below w.heap.size w (((w.alloc o1).alloc o2).alloc o3)) := fun o1 o2 o3 => (uh HB2 o1 o2).alloc (by simp; omega) _
  have hP : fileP n = (hasOwnerP n && decide (dl ≤ 65536) && emptyB n.target && noListP n) := by first | rfl | (rw [← hd]; rfl)
  rw [hP]
  clear hP
  generalize noListP n = qn at *
  generalize hasOwnerP n = qo at *
  generalize targetP n.target = qt at *
  obtain ⟨kd, md, us, gr, lk, ti, dt, tg, ls, pa⟩ := n
  unfold na at *
  simp only at hd hl HO HN HT ⊢
  clear hd hl
  cases qo
  case false =>
    simp only [Bool.false_and]
    go_enter Tryz.func230, Tryz.ntmps230
    go_wp2_with (first | (go_at_call 260; refine (uh HO _).mono ?_; rintro e w' ⟨rfl, rfl⟩) | (go_at_call 259; refine (uh HN _).mono ?_; rintro e w' ⟨rfl, rfl⟩) | (go_at_call 262; refine (uh HT _).mono ?_; rintro e w' ⟨rfl, rfl⟩))
    go_ret
    exact ⟨rfl, by first | exact uh HB1 _ | exact uh HB2 _ _ | exact uh HB3 _ _ _⟩
  by_cases a1 : (dl : Int) ≤ 65536
  case neg =>
    rw [show decide (dl ≤ 65536) = false by simp; omega]
    simp only [Bool.false_and, Bool.and_false]
    go_enter Tryz.func230, Tryz.ntmps230
    go_wp2_with (first | (go_at_call 260; refine (uh HO _).mono ?_; rintro e w' ⟨rfl, rfl⟩) | (go_at_call 259; refine (uh HN _).mono ?_; rintro e w' ⟨rfl, rfl⟩) | (go_at_call 262; refine (uh HT _).mono ?_; rintro e w' ⟨rfl, rfl⟩))
    go_ret
    exact ⟨rfl, by first | exact uh HB1 _ | exact uh HB2 _ _ | exact uh HB3 _ _ _⟩
  rw [show decide (dl ≤ 65536) = true by simp; omega]
  by_cases a8 : tg.size = 0
  case neg =>
    rw [emptyB_no a8]
    have a9 := empty_no a8
    clear a8
    simp only [Bool.false_and, Bool.and_false]
    go_enter Tryz.func230, Tryz.ntmps230
    go_wp2_with (first | (go_at_call 260; refine (uh HO _).mono ?_; rintro e w' ⟨rfl, rfl⟩) | (go_at_call 259; refine (uh HN _).mono ?_; rintro e w' ⟨rfl, rfl⟩) | (go_at_call 262; refine (uh HT _).mono ?_; rintro e w' ⟨rfl, rfl⟩))
    go_ret
    exact ⟨rfl, by first | exact uh HB1 _ | exact uh HB2 _ _ | exact uh HB3 _ _ _⟩
  obtain rfl := empty_is a8
  clear a8
  go_enter Tryz.func230, Tryz.ntmps230
  go_wp2_with (first | (go_at_call 260; refine (uh HO _).mono ?_; rintro e w' ⟨rfl, rfl⟩) | (go_at_call 259; refine (uh HN _).mono ?_; rintro e w' ⟨rfl, rfl⟩) | (go_at_call 262; refine (uh HT _).mono ?_; rintro e w' ⟨rfl, rfl⟩))
  go_ret
  exact ⟨rfl, by first | exact uh HB1 _ | exact uh HB2 _ _ | exact uh HB3 _ _ _⟩
set_option maxRecDepth 100000 in
set_option maxHeartbeats 2000000 in
theorem mayBeLink_any (n : Nd) (da : Option Addr) (dl dc : Nat) (la : Option Addr) (ll lc : Nat) (w : World) (hd : n.data.length = dl) (hl : n.list.length = ll) (_hg : Eg w la ll lc n.list) : Calls Tryz.prog 232 #[.agg (na n (.slice da dl dc) (.slice la ll lc))] w fun e w' => e = .returned (.bool (linkP n)) ∧ Below w.heap.size w w' := by
  have HO : Hid (∀ W, Calls Tryz.prog 260 #[.agg (na n (.slice da dl dc) (.slice la ll lc))] W fun e w' => e = .returned (.bool (hasOwnerP n)) ∧ w' = W.alloc (.cells (na n (.slice da dl dc) (.slice la ll lc)) 82)) := fun W => hasOwner_any n da dl dc la ll lc W hd hl
  have HN : Hid (∀ W, Calls Tryz.prog 259 #[.agg (na n (.slice da dl dc) (.slice la ll lc))] W fun e w' => e = .returned (.bool (noListP n)) ∧ w' = W.alloc (.cells (na n (.slice da dl dc) (.slice la ll lc)) 82)) := fun W => hasNoList_any n da dl dc la ll lc W hd hl
  have HT : Hid (∀ W, Calls Tryz.prog 262 #[.string n.target] W fun e w' => e = .returned (.bool (targetP n.target)) ∧ w' = W) := fun W => isTarget_any n.target W
  have HB1 : Hid (∀ o, Below w.heap.size w (w.alloc o)) := fun o => (Below.refl _ w).alloc (Nat.le_refl _) o
  have HB2 : Hid (∀ o1 o2, Below w.heap.size w ((w.alloc o1).alloc o2)) := fun o1 o2 => (uh HB1 o1).alloc (by simp) _
  have HB3 : Hid (∀ o1 o2 o3, Below w.heap.size w (((w.alloc o1).alloc o2).alloc o3)) := fun o1 o2 o3 => (uh HB2 o1 o2).alloc (by simp; omega) _
  have hP : linkP n = (hasOwnerP n && decide (n.mode = 511) && targetP n.target && decide (dl = 0) && noListP n) := by first | rfl | (rw [← hd]; rfl)
  rw [hP]
  clear hP
  generalize noListP n = qn at *
  generalize hasOwnerP n = qo at *
  generalize targetP n.target = qt at *
  obtain ⟨kd, md, us, gr, lk, ti, dt, tg, ls, pa⟩ := n
  unfold na at *
  simp only at hd hl HO HN HT ⊢
  clear hd hl
  cases qo
  case false =>
    simp only [Bool.false_and]
    go_enter Tryz.func232, Tryz.ntmps232
    go_wp2_with (first | (go_at_call 260; refine (uh HO _).mono ?_; rintro e w' ⟨rfl, rfl⟩) | (go_at_call 259; refine (uh HN _).mono ?_; rintro e w' ⟨rfl, rfl⟩) | (go_at_call 262; refine (uh HT _).mono ?_; rintro e w' ⟨rfl, rfl⟩))
    go_ret
    exact ⟨rfl, by first | exact uh HB1 _ | exact uh HB2 _ _ | exact uh HB3 _ _ _⟩
  by_cases a1 : md = 511
  case neg =>
    rw [show decide (md = 511) = false by simp [a1]]
    simp only [Bool.false_and, Bool.and_false]
    go_enter Tryz.func232, Tryz.ntmps232
    go_wp2_with (first | (go_at_call 260; refine (uh HO _).mono ?_; rintro e w' ⟨rfl, rfl⟩) | (go_at_call 259; refine (uh HN _).mono ?_; rintro e w' ⟨rfl, rfl⟩) | (go_at_call 262; refine (uh HT _).mono ?_; rintro e w' ⟨rfl, rfl⟩))
    go_ret
    exact ⟨rfl, by first | exact uh HB1 _ | exact uh HB2 _ _ | exact uh HB3 _ _ _⟩
  subst a1
  cases qt
  case false =>
    simp only [Bool.false_and, Bool.and_false]
    go_enter Tryz.func232, Tryz.ntmps232
    go_wp2_with (first | (go_at_call 260; refine (uh HO _).mono ?_; rintro e w' ⟨rfl, rfl⟩) | (go_at_call 259; refine (uh HN _).mono ?_; rintro e w' ⟨rfl, rfl⟩) | (go_at_call 262; refine (uh HT _).mono ?_; rintro e w' ⟨rfl, rfl⟩))
    go_ret
    exact ⟨rfl, by first | exact uh HB1 _ | exact uh HB2 _ _ | exact uh HB3 _ _ _⟩
  by_cases a6 : dl = 0
  case neg =>
    rw [show decide (dl = 0) = false by simp [a6]]
    have a7 : ¬ (dl : Int) = 0 := by omega
    clear a6
    simp only [Bool.false_and, Bool.and_false]
    go_enter Tryz.func232, Tryz.ntmps232
    go_wp2_with (first | (go_at_call 260; refine (uh HO _).mono ?_; rintro e w' ⟨rfl, rfl⟩) | (go_at_call 259; refine (uh HN _).mono ?_; rintro e w' ⟨rfl, rfl⟩) | (go_at_call 262; refine (uh HT _).mono ?_; rintro e w' ⟨rfl, rfl⟩))
    go_ret
    exact ⟨rfl, by first | exact uh HB1 _ | exact uh HB2 _ _ | exact uh HB3 _ _ _⟩
  subst a6
  go_enter Tryz.func232, Tryz.ntmps232
  go_wp2_with (first | (go_at_call 260; refine (uh HO _).mono ?_; rintro e w' ⟨rfl, rfl⟩) | (go_at_call 259; refine (uh HN _).mono ?_; rintro e w' ⟨rfl, rfl⟩) | (go_at_call 262; refine (uh HT _).mono ?_; rintro e w' ⟨rfl, rfl⟩))
  go_ret
  exact ⟨rfl, by first | exact uh HB1 _ | exact uh HB2 _ _ | exact uh HB3 _ _ _⟩
set_option maxRecDepth 100000 in
set_option maxHeartbeats 2000000 in
theorem mayBeDir_any (n : Nd) (da : Option Addr) (dl dc : Nat) (la : Option Addr) (ll lc : Nat) (w : World) (hd : n.data.length = dl) (hl : n.list.length = ll) (hg : Eg w la ll lc n.list) : Calls Tryz.prog 231 #[.agg (na n (.slice da dl dc) (.slice la ll lc))] w fun e w' => e = .returned (.bool (dirP n)) ∧ Below w.heap.size w w' := by
  have HO : Hid (∀ W, Calls Tryz.prog 260 #[.agg (na n (.slice da dl dc) (.slice la ll lc))] W fun e w' => e = .returned (.bool (hasOwnerP n)) ∧ w' = W.alloc (.cells (na n (.slice da dl dc) (.slice la ll lc)) 82)) := fun W => hasOwner_any n da dl dc la ll lc W hd hl
  have HN : Hid (∀ W, Calls Tryz.prog 259 #[.agg (na n (.slice da dl dc) (.slice la ll lc))] W fun e w' => e = .returned (.bool (noListP n)) ∧ w' = W.alloc (.cells (na n (.slice da dl dc) (.slice la ll lc)) 82)) := fun W => hasNoList_any n da dl dc la ll lc W hd hl
  have HT : Hid (∀ W, Calls Tryz.prog 262 #[.string n.target] W fun e w' => e = .returned (.bool (targetP n.target)) ∧ w' = W) := fun W => isTarget_any n.target W
  have HB1 : Hid (∀ o, Below w.heap.size w (w.alloc o)) := fun o => (Below.refl _ w).alloc (Nat.le_refl _) o
  have HB2 : Hid (∀ o1 o2, Below w.heap.size w ((w.alloc o1).alloc o2)) := fun o1 o2 => (uh HB1 o1).alloc (by simp) _
  have HB3 : Hid (∀ o1 o2 o3, Below w.heap.size w (((w.alloc o1).alloc o2).alloc o3)) := fun o1 o2 o3 => (uh HB2 o1 o2).alloc (by simp; omega) _
  have hP : dirP n = (hasOwnerP n && listP n.list && decide (dl = 0) && emptyB n.target) := by first | rfl | (rw [← hd]; rfl)
  rw [hP]
  clear hP
  generalize noListP n = qn at *
  generalize hasOwnerP n = qo at *
  generalize targetP n.target = qt at *
  obtain ⟨kd, md, us, gr, lk, ti, dt, tg, ls, pa⟩ := n
  unfold na at *
  simp only at hd hl HO HN HT ⊢
  clear hd
  simp only at hg
  have HL : Hid (∀ W, Below w.heap.size w W → Calls Tryz.prog 261 #[.slice la ll lc] W fun e w' => e = .returned (.bool (listP ls)) ∧ Below W.heap.size W w') := fun W h => isList_any la ll lc ls W (hg.below h)
  clear hl hg HT HN
  generalize listP ls = ql at *
  cases qo
  case false =>
    simp only [Bool.false_and]
    go_enter Tryz.func231, Tryz.ntmps231
    go_wp2_with (first | (go_at_call 260; refine (uh HO _).mono ?_; rintro e w' ⟨rfl, rfl⟩) | (go_at_call 259; refine (uh HN _).mono ?_; rintro e w' ⟨rfl, rfl⟩) | (go_at_call 262; refine (uh HT _).mono ?_; rintro e w' ⟨rfl, rfl⟩))
    go_ret
    exact ⟨rfl, by first | exact uh HB1 _ | exact uh HB2 _ _ | exact uh HB3 _ _ _⟩
  obtain ⟨Z, hZ⟩ : ∃ Z : Obj, Z = .cells #[.int .u8 kd.toNat, .int .i64 md, .int .i64 us, .int .i64 gr, .int .i64 lk, .int .i64 ti, .slice da dl dc, .string tg, .slice la ll lc, .int .i64 pa] 82 := ⟨_, rfl⟩
  have hZ2 := hide ((uh HB2 Z Z))
  cases ql
  case false =>
    clear hZ2 hZ
    simp only [Bool.false_and, Bool.and_false]
    go_enter Tryz.func231, Tryz.ntmps231
    go_wp2_with (go_at_call 260; refine (uh HO _).mono ?_; rintro e w' ⟨rfl, rfl⟩)
    refine (uh HL _ (uh HB2 _ _)).mono ?_
    rintro e w1 ⟨rfl, b1⟩
    have HB := hide ((uh HB2 _ _).trans (b1.mono (by simp; omega)))
    clear b1 HL HO
    go_wp2
    go_ret
    exact ⟨rfl, uh HB⟩
  clear hZ2 hZ
  by_cases a6 : dl = 0
  case neg =>
    rw [show decide (dl = 0) = false by simp [a6]]
    simp only [Bool.false_and, Bool.and_false]
    have a7 : ¬ (dl : Int) = 0 := by omega
    clear a6
    go_enter Tryz.func231, Tryz.ntmps231
    go_wp2_with (go_at_call 260; refine (uh HO _).mono ?_; rintro e w' ⟨rfl, rfl⟩)
    refine (uh HL _ (uh HB2 _ _)).mono ?_
    rintro e w1 ⟨rfl, b1⟩
    have HB := hide ((uh HB2 _ _).trans (b1.mono (by simp; omega)))
    have c6 := (b1.cell (p := ⟨w.heap.size, 6, none⟩) (by simp; omega)).trans (show _ = some (.slice da dl dc) by simp)
    have c7 := (b1.cell (p := ⟨w.heap.size, 7, none⟩) (by simp; omega)).trans (show _ = some (.string tg) by simp)
    clear b1 HL HO
    go_wp2
    go_ret
    exact ⟨rfl, uh HB⟩
  subst a6
  by_cases a8 : tg.size = 0
  case neg =>
    rw [emptyB_no a8]
    have a9 := empty_no a8
    clear a8
    go_enter Tryz.func231, Tryz.ntmps231
    go_wp2_with (go_at_call 260; refine (uh HO _).mono ?_; rintro e w' ⟨rfl, rfl⟩)
    refine (uh HL _ (uh HB2 _ _)).mono ?_
    rintro e w1 ⟨rfl, b1⟩
    have HB := hide ((uh HB2 _ _).trans (b1.mono (by simp; omega)))
    have c6 := (b1.cell (p := ⟨w.heap.size, 6, none⟩) (by simp; omega)).trans (show _ = some (.slice da 0 dc) by simp)
    have c7 := (b1.cell (p := ⟨w.heap.size, 7, none⟩) (by simp; omega)).trans (show _ = some (.string tg) by simp)
    clear b1 HL HO
    go_wp2
    go_ret
    exact ⟨by simp [a9], uh HB⟩
  obtain rfl := empty_is a8
  clear a8
  go_enter Tryz.func231, Tryz.ntmps231
  go_wp2_with (go_at_call 260; refine (uh HO _).mono ?_; rintro e w' ⟨rfl, rfl⟩)
  refine (uh HL _ (uh HB2 _ _)).mono ?_
  rintro e w1 ⟨rfl, b1⟩
  have HB := hide ((uh HB2 _ _).trans (b1.mono (by simp; omega)))
  have c6 := (b1.cell (p := ⟨w.heap.size, 6, none⟩) (by simp; omega)).trans (show _ = some (.slice da 0 dc) by simp)
  have c7 := (b1.cell (p := ⟨w.heap.size, 7, none⟩) (by simp; omega)).trans (show _ = some (.string ⟨#[]⟩) by simp)
  clear b1 HL HO
  go_wp2
  go_ret
  exact ⟨rfl, uh HB⟩
end Go.Proofs.YtidhceebafmlkaaGreatDoor.Tr
