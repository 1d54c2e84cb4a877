/- What hasRoot and isWithinLimits answer. -/
import Derived.Test.YtbajjbgeohbdjaaTrList
namespace Go.Proofs.Ytbajjbgeohbdjaa.Tr
open Go.RowKit Go.Proofs.Ytbajjbgeohbdjaa.Cu

theorem u8_int (a b : UInt8) : ((a.toNat : Int) = (b.toNat : Int)) = (a = b) := propext ⟨fun h => UInt8.toNat_inj.1 (by omega), fun h => by rw [h]⟩
set_option maxRecDepth 100000 in
set_option maxHeartbeats 1000000 in
theorem hasRoot_any (a : Option Addr) (n cap : Nat) (ns : List Nd) (w : World) (h : Ng w a n cap ns) (hn : n ≤ 1000000) : Calls Try.prog 17 #[.slice a n cap] w fun e w' => e = .returned (.bool (rootP ns)) ∧ Below w.heap.size w w' := by
  by_cases a1 : (n : Int) ≤ 1
  · rw [show rootP ns = false by unfold rootP; rw [h.len, show decide (2 ≤ n) = false by simp; omega]; simp]
    clear h
    go_enter Try.func17, Try.ntmps17
    go_wp2
    go_ret
    exact ⟨rfl, Below.refl _ _⟩
  by_cases a2 : (513 : Int) < n
  · rw [show rootP ns = false by unfold rootP; rw [h.len, show decide (n ≤ 513) = false by simp; omega]; simp]
    clear h
    go_enter Try.func17, Try.ntmps17
    go_wp2
    go_ret
    exact ⟨rfl, Below.refl _ _⟩
  have hP : rootP ns = (decide ((nd ns 0).kind = 0) && decide ((nd ns 1).kind = 2) && decide ((nd ns 1).parent = 1) && decide ((nd ns (n - 1)).kind ≠ 0)) := by
    unfold rootP; rw [h.len, show decide (2 ≤ n) = true by simp; omega, show decide (n ≤ 513) = true by simp; omega]; rfl
  rw [hP]
  clear hP
  rcases h.cells with h0 | ⟨b, off, rfl, hb, hc⟩
  · omega
  obtain ⟨da, dc, la, lc, h10, -, -⟩ := hc 1 (by omega)
  obtain ⟨_, _, _, _, hz, -, -⟩ := hc 0 (by omega)
  obtain ⟨_, _, _, _, hl, -, -⟩ := hc (n - 1) (by omega)
  obtain ⟨j, hj⟩ : ∃ j, j = n - 1 := ⟨_, rfl⟩
  have hw : IntKind.i64.wrap ((n : Int) - 1) = (j : Int) := by rw [show (n : Int) - 1 = (j : Int) by omega]; exact wrap_small _ (by omega) (by omega)
  have hjn : j < n := by omega
  rw [← hj] at hl ⊢
  have z0 := hz.c0
  have l0 := hl.c0
  have c0 := h10.c0
  have c1 := h10.c1
  have c2 := h10.c2
  have c3 := h10.c3
  have c4 := h10.c4
  have c5 := h10.c5
  have c6 := h10.c6
  have c7 := h10.c7
  have c8 := h10.c8
  have c9 := h10.c9
  clear h10 hz hl hc h hj
  rw [Nat.zero_mul, Nat.add_zero] at z0
  simp only [Nat.one_mul, Nat.add_assoc, Nat.reduceAdd] at c0 c1 c2 c3 c4 c5 c6 c7 c8 c9
  generalize nd ns 0 = m0 at *
  generalize nd ns j = mj at *
  generalize nd ns 1 = m at *
  obtain ⟨kd, md, us, gr, lk, ti, dt, tg, ls, pa⟩ := m
  obtain ⟨k0, _, _, _, _, _, _, _, _, _⟩ := m0
  obtain ⟨kj, _, _, _, _, _, _, _, _, _⟩ := mj
  simp only at c0 c1 c2 c3 c4 c5 c6 c7 c8 c9 z0 l0 ⊢
  have hB : Hid (∀ o, Below w.heap.size w (w.alloc o)) := fun o => (Below.refl _ _).alloc (Nat.le_refl _) _
  have hn1 : (1 : Int) < (n : Int) := by omega
  by_cases b1 : k0 = 0
  case neg =>
    rw [show decide (k0 = 0) = false by simp [b1]]
    simp only [Bool.false_and]
    have b2 : ¬ (k0.toNat : Int) = 0 := fun e => b1 (UInt8.toNat_inj.1 (by simpa using e))
    have b3 : ¬ k0.toNat = 0 := by omega
    go_enter Try.func17, Try.ntmps17
    go_wp2
    go_ret
    exact ⟨rfl, unhide hB _⟩
  subst b1
  by_cases b1 : kd = 2
  case neg =>
    rw [show decide (kd = 2) = false by simp [b1]]
    simp only [Bool.false_and, Bool.and_false]
    have b2 : ¬ (kd.toNat : Int) = 2 := fun e => b1 (UInt8.toNat_inj.1 (by show kd.toNat = 2; omega))
    go_enter Try.func17, Try.ntmps17
    go_wp2
    go_ret
    exact ⟨rfl, unhide hB _⟩
  subst b1
  by_cases b1 : pa = 1
  case neg =>
    rw [show decide (pa = 1) = false by simp [b1]]
    simp only [Bool.false_and, Bool.and_false]
    go_enter Try.func17, Try.ntmps17
    go_wp2
    go_ret
    exact ⟨rfl, unhide hB _⟩
  subst b1
  by_cases b1 : kj = 0
  · subst b1
    go_enter Try.func17, Try.ntmps17
    go_wp2
    go_ret
    exact ⟨rfl, unhide hB _⟩
  · rw [show decide (kj ≠ 0) = true by simp [b1]]
    have b2 : ¬ (kj.toNat : Int) = 0 := fun e => b1 (UInt8.toNat_inj.1 (by simpa using e))
    go_enter Try.func17, Try.ntmps17
    go_wp2
    go_ret
    exact ⟨by simp; omega, unhide hB _⟩

theorem take_nd (ns : List Nd) (k : Nat) (h : k < ns.length) : ns.take (k + 1) = ns.take k ++ [nd ns k] := by
  rw [List.take_succ_eq_append_getElem h]; simp [nd, List.getD, List.getElem?_eq_getElem h]
theorem bytesP_succ (ns : List Nd) (k : Nat) (h : k < ns.length) : bytesP ns (k + 1) = bytesP ns k + (nd ns k).data.length := by
  unfold bytesP; rw [take_nd ns k h]; simp
theorem namesP_succ (ns : List Nd) (k : Nat) (h : k < ns.length) : namesP ns (k + 1) = namesP ns k + (nd ns k).list.length := by
  unfold namesP; rw [take_nd ns k h]; simp
theorem bytesP_mono (ns : List Nd) (k : Nat) (h : k ≤ ns.length) : bytesP ns k ≤ bytesP ns ns.length := by
  obtain ⟨d, hd⟩ : ∃ d, ns.length = k + d := ⟨_, (Nat.add_sub_cancel' h).symm⟩
  rw [hd]
  clear h
  have : ∀ e, k + e ≤ ns.length → bytesP ns k ≤ bytesP ns (k + e) := by
    intro e
    induction e with
    | zero => intro _; exact Nat.le_refl _
    | succ e ih => intro h; have := ih (by omega); rw [← Nat.add_assoc, bytesP_succ ns (k + e) (by omega)]; omega
  exact this d (by omega)
theorem namesP_mono (ns : List Nd) (k : Nat) (h : k ≤ ns.length) : namesP ns k ≤ namesP ns ns.length := by
  obtain ⟨d, hd⟩ : ∃ d, ns.length = k + d := ⟨_, (Nat.add_sub_cancel' h).symm⟩
  rw [hd]
  clear h
  have : ∀ e, k + e ≤ ns.length → namesP ns k ≤ namesP ns (k + e) := by
    intro e
    induction e with
    | zero => intro _; exact Nat.le_refl _
    | succ e ih => intro h; have := ih (by omega); rw [← Nat.add_assoc, namesP_succ ns (k + e) (by omega)]; omega
  exact this d (by omega)
set_option maxRecDepth 100000 in
set_option maxHeartbeats 1000000 in
theorem limits_any (a : Option Addr) (n cap : Nat) (ns : List Nd) (w : World) (h : Ng w a n cap ns) (hn : n ≤ 1000000) (hby : bytesP ns ns.length ≤ 1000000000) (hna : namesP ns ns.length ≤ 1000000000) :
    Calls Try.prog 18 #[.slice a n cap] w fun e w' => e = .returned (.bool (limitsP ns)) ∧ Below w.heap.size w w' := by
  rcases h.cells with rfl | ⟨b, off, rfl, hb, hc⟩
  · obtain rfl : ns = [] := List.eq_nil_of_length_eq_zero h.len
    go_enter Try.func18, Try.ntmps18
    go_wp2
    refine wp_loop_rounds 1 ?_
    rw [rounds_succ]
    go_wp2
    go_ret
    exact ⟨rfl, Below.refl _ _⟩
  have HC := hide hc
  have HM1 : Hid (∀ k, k ≤ n → bytesP ns k ≤ 1000000000) := fun k hk => Nat.le_trans (bytesP_mono ns k (by rw [h.len]; exact hk)) hby
  have HM2 : Hid (∀ k, k ≤ n → namesP ns k ≤ 1000000000) := fun k hk => Nat.le_trans (namesP_mono ns k (by rw [h.len]; exact hk)) hna
  have HL := hide h.len
  clear hc h hby hna
  have hP : limitsP ns = (decide (bytesP ns n ≤ 1048576) && decide (namesP ns n ≤ 2048)) := by unfold limitsP; rw [unhide HL]
  rw [hP]
  clear hP
  go_enter Try.func18, Try.ntmps18
  go_wp2
  go_loopw [3, 4, 9] (fun x y i wr => ∃ k : Nat, k ≤ n ∧ x = .int .i64 (bytesP ns k) ∧ y = .int .i64 (namesP ns k) ∧ i = .int .i64 k ∧ Hid (Below w.heap.size w wr)) (fun _ _ i _ => n - (intOf i).toNat)
  case atStart => exact ⟨0, Nat.zero_le _, rfl, rfl, rfl, Below.refl _ _⟩
  case round =>
    obtain ⟨k, hk, rfl, rfl, rfl, hnx⟩ := hrel
    have hsz := (unhide hnx).size
    by_cases hlt : k < n
    · have hlt' : (k : Int) < (n : Int) := by omega
      obtain ⟨da, dc, la, lc, h10, -, -⟩ := (unhide HC k hlt).below hb (unhide hnx)
      have s1 := hide (bytesP_succ ns k (by rw [unhide HL]; exact hlt))
      have s2 := hide (namesP_succ ns k (by rw [unhide HL]; exact hlt))
      have m1 := unhide HM1 (k + 1) (by omega)
      have m2 := unhide HM2 (k + 1) (by omega)
      rw [unhide s1] at m1
      rw [unhide s2] at m2
      generalize bytesP ns k = x at *
      generalize namesP ns k = y at *
      generalize nd ns k = m at *
      obtain ⟨dl, hdl⟩ : ∃ dl, m.data.length = dl := ⟨_, rfl⟩
      obtain ⟨ll, hll⟩ : ∃ ll, m.list.length = ll := ⟨_, rfl⟩
      rw [hdl, hll] at h10
      rw [hdl] at s1 m1
      rw [hll] at s2 m2
      have c0 := h10.c0
      have c1 := h10.c1
      have c2 := h10.c2
      have c3 := h10.c3
      have c4 := h10.c4
      have c5 := h10.c5
      have c6 := h10.c6
      have c7 := h10.c7
      have c8 := h10.c8
      have c9 := h10.c9
      clear h10 hdl hll
      have hB3 : Hid (∀ o, Below w.heap.size w (wr.alloc o)) := fun o => (unhide hnx).alloc hsz o
      go_wp2
      go_roundw
      case rel => exact ⟨k + 1, by omega, by rw [unhide s1]; go_num, by rw [unhide s2]; go_num, by go_num, unhide hB3 _⟩
      case measure => simp [intOf]; omega
    · have e : k = n := by omega
      subst e
      have m1 := unhide HM1 k (by omega)
      have m2 := unhide HM2 k (by omega)
      by_cases q1 : (bytesP ns k : Int) ≤ 1048576
      · have q2 : decide (bytesP ns k ≤ 1048576) = true := by simp; omega
        have Q2 := hide q2
        clear q2
        go_wp2
        go_ret
        refine ⟨?_, unhide hnx⟩
        rw [unhide Q2, Bool.true_and]
        simp
        omega
      · have Q2 : Hid (decide (bytesP ns k ≤ 1048576) = false) := hide (by simp; omega)
        go_wp2
        go_ret
        refine ⟨?_, unhide hnx⟩
        rw [unhide Q2, Bool.false_and]
        rfl
end Go.Proofs.Ytbajjbgeohbdjaa.Tr
