import Derived.Test.YtidhceebafmlkaaGreatDoorTrList
namespace Go.Proofs.YtidhceebafmlkaaGreatDoor.Tr
open Go.RowKit Cu
set_option maxRecDepth 100000 in
set_option maxHeartbeats 1000000 in
theorem hasRoot_any (a : Option Addr) (n cap : Nat) (ns : List Nd) (w : World) (h : Ng w a n cap ns) (hn : n ≤ 1000000) : Calls Tryz.prog 104 #[.slice a n cap] w fun e w' => e = .returned (.bool (rootP ns)) ∧ Below w.heap.size w w' := by
  by_cases a1 : (n : Int) ≤ 1
  · rw [show rootP ns = false by unfold rootP; rw [h.len, show decide (2 ≤ n) = false by simp; omega]; simp]
    clear h
    go_enter Tryz.func104, Tryz.ntmps104
    go_wp2
    go_ret
    exact ⟨rfl, Below.refl _ _⟩
  by_cases a2 : (513 : Int) < n
  · rw [show rootP ns = false by unfold rootP; rw [h.len, show decide (n ≤ 513) = false by simp; omega]; simp]
    clear h
    go_enter Tryz.func104, Tryz.ntmps104
    go_wp2
    go_ret
    exact ⟨rfl, Below.refl _ _⟩
  have hP : rootP ns = (decide ((nd ns 0).kind = 0) && decide ((nd ns 1).kind = 2) && decide ((nd ns 1).parent = 1) && decide ((nd ns (n - 1)).kind ≠ 0)) := by
    unfold rootP; rw [h.len, show decide (2 ≤ n) = true by simp; omega, show decide (n ≤ 513) = true by simp; omega]; rfl
  rw [hP]
  clear hP
  rcases h.cells with h0 | ⟨b, off, rfl, hb, hc⟩
  · omega
  obtain ⟨da, dc, la, lc, h10, -, -⟩ := hc 1 (by omega)
  obtain ⟨_, _, _, _, hz, -, -⟩ := hc 0 (by omega)
  obtain ⟨_, _, _, _, hl, -, -⟩ := hc (n - 1) (by omega)
  obtain ⟨j, hj⟩ : ∃ j, j = n - 1 := ⟨_, rfl⟩
  have hw : IntKind.i64.wrap ((n : Int) - 1) = (j : Int) := by rw [show (n : Int) - 1 = (j : Int) by omega]; exact wrap_small _ (by omega) (by omega)
  have hjn : j < n := by omega
  rw [← hj] at hl ⊢
  have z0 := hz.c0
  have l0 := hl.c0
  have c0 := h10.c0
  have c1 := h10.c1
  have c2 := h10.c2
  have c3 := h10.c3
  have c4 := h10.c4
  have c5 := h10.c5
  have c6 := h10.c6
  have c7 := h10.c7
  have c8 := h10.c8
  have c9 := h10.c9
  clear h10 hz hl hc h hj
  rw [Nat.zero_mul, Nat.add_zero] at z0
  simp only [Nat.one_mul, Nat.add_assoc, Nat.reduceAdd] at c0 c1 c2 c3 c4 c5 c6 c7 c8 c9
  generalize nd ns 0 = m0 at *
  generalize nd ns j = mj at *
  generalize nd ns 1 = m at *
  obtain ⟨kd, md, us, gr, lk, ti, dt, tg, ls, pa⟩ := m
  obtain ⟨k0, _, _, _, _, _, _, _, _, _⟩ := m0
  obtain ⟨kj, _, _, _, _, _, _, _, _, _⟩ := mj
  simp only at c0 c1 c2 c3 c4 c5 c6 c7 c8 c9 z0 l0 ⊢
  have hB : Hid (∀ o, Below w.heap.size w (w.alloc o)) := fun o => (Below.refl _ _).alloc (Nat.le_refl _) _
  have hn1 : (1 : Int) < (n : Int) := by omega
  by_cases b1 : k0 = 0
  case neg =>
    rw [show decide (k0 = 0) = false by simp [b1]]
    simp only [Bool.false_and]
    have b2 : ¬ (k0.toNat : Int) = 0 := fun e => b1 (UInt8.toNat_inj.1 (by simpa using e))
    have b3 : ¬ k0.toNat = 0 := by omega
    go_enter Tryz.func104, Tryz.ntmps104
    go_wp2
    go_ret
    exact ⟨rfl, uh hB _⟩
  subst b1
  by_cases b1 : kd = 2
  case neg =>
    rw [show decide (kd = 2) = false by simp [b1]]
    simp only [Bool.false_and, Bool.and_false]
    have b2 : ¬ (kd.toNat : Int) = 2 := fun e => b1 (UInt8.toNat_inj.1 (by show kd.toNat = 2; omega))
    go_enter Tryz.func104, Tryz.ntmps104
    go_wp2
    go_ret
    exact ⟨rfl, uh hB _⟩
  subst b1
  by_cases b1 : pa = 1
  case neg =>
    rw [show decide (pa = 1) = false by simp [b1]]
    simp only [Bool.false_and, Bool.and_false]
    go_enter Tryz.func104, Tryz.ntmps104
    go_wp2
    go_ret
    exact ⟨rfl, uh hB _⟩
  subst b1
  by_cases b1 : kj = 0
  · subst b1
    go_enter Tryz.func104, Tryz.ntmps104
    go_wp2
    go_ret
    exact ⟨rfl, uh hB _⟩
  · rw [show decide (kj ≠ 0) = true by simp [b1]]
    have b2 : ¬ (kj.toNat : Int) = 0 := fun e => b1 (UInt8.toNat_inj.1 (by simpa using e))
    go_enter Tryz.func104, Tryz.ntmps104
    go_wp2
    go_ret
    exact ⟨by simp; omega, uh hB _⟩
theorem take_nd (ns : List Nd) (k : Nat) (h : k < ns.length) : ns.take (k + 1) = ns.take k ++ [nd ns k] := by
  rw [List.take_succ_eq_append_getElem h]; simp [nd, List.getD, List.getElem?_eq_getElem h]
theorem bytesP_succ (ns : List Nd) (k : Nat) (h : k < ns.length) : bytesP ns (k + 1) = bytesP ns k + (nd ns k).data.length := by
  unfold bytesP; rw [take_nd ns k h]; simp
theorem namesP_succ (ns : List Nd) (k : Nat) (h : k < ns.length) : namesP ns (k + 1) = namesP ns k + (nd ns k).list.length := by
  unfold namesP; rw [take_nd ns k h]; simp
theorem bytesP_mono (ns : List Nd) (k : Nat) (h : k ≤ ns.length) : bytesP ns k ≤ bytesP ns ns.length := by
  obtain ⟨d, hd⟩ : ∃ d, ns.length = k + d := ⟨_, (Nat.add_sub_cancel' h).symm⟩
  rw [hd]
  clear h
  have : ∀ e, k + e ≤ ns.length → bytesP ns k ≤ bytesP ns (k + e) := by
    intro e
    induction e with
    | zero => intro _; exact Nat.le_refl _
    | succ e ih => intro h; have := ih (by omega); rw [← Nat.add_assoc, bytesP_succ ns (k + e) (by omega)]; omega
  exact this d (by omega)
theorem namesP_mono (ns : List Nd) (k : Nat) (h : k ≤ ns.length) : namesP ns k ≤ namesP ns ns.length := by
  obtain ⟨d, hd⟩ : ∃ d, ns.length = k + d := ⟨_, (Nat.add_sub_cancel' h).symm⟩
  rw [hd]
  clear h
  have : ∀ e, k + e ≤ ns.length → namesP ns k ≤ namesP ns (k + e) := by
    intro e
    induction e with
    | zero => intro _; exact Nat.le_refl _
    | succ e ih => intro h; have := ih (by omega); rw [← Nat.add_assoc, namesP_succ ns (k + e) (by omega)]; omega
  exact this d (by omega)
set_option maxRecDepth 100000 in
set_option maxHeartbeats 1000000 in
theorem limits_any (a : Option Addr) (n cap : Nat) (ns : List Nd) (w : World) (h : Ng w a n cap ns) (hn : n ≤ 1000000) (hby : bytesP ns ns.length ≤ 1000000000) (hna : namesP ns ns.length ≤ 1000000000) :
    Calls Tryz.prog 105 #[.slice a n cap] w fun e w' => e = .returned (.bool (limitsP ns)) ∧ Below w.heap.size w w' := by
  rcases h.cells with rfl | ⟨b, off, rfl, hb, hc⟩
  · obtain rfl : ns = [] := List.eq_nil_of_length_eq_zero h.len
    go_enter Tryz.func105, Tryz.ntmps105
    go_wp2
    refine wp_loop_rounds 1 ?_
    rw [rounds_succ]
    go_wp2
    go_ret
    exact ⟨rfl, Below.refl _ _⟩
  have HC := hide hc
  have HM1 : Hid (∀ k, k ≤ n → bytesP ns k ≤ 1000000000) := fun k hk => Nat.le_trans (bytesP_mono ns k (by rw [h.len]; exact hk)) hby
  have HM2 : Hid (∀ k, k ≤ n → namesP ns k ≤ 1000000000) := fun k hk => Nat.le_trans (namesP_mono ns k (by rw [h.len]; exact hk)) hna
  have HL := hide h.len
  clear hc h hby hna
  have hP : limitsP ns = (decide (bytesP ns n ≤ 1048576) && decide (namesP ns n ≤ 2048)) := by unfold limitsP; rw [uh HL]
  rw [hP]
  clear hP
  go_enter Tryz.func105, Tryz.ntmps105
  go_wp2
  go_loopw [3, 4, 9] (fun x y i wr => ∃ k : Nat, k ≤ n ∧ x = .int .i64 (bytesP ns k) ∧ y = .int .i64 (namesP ns k) ∧ i = .int .i64 k ∧ Hid (Below w.heap.size w wr)) (fun _ _ i _ => n - (intOf i).toNat)
  case atStart => exact ⟨0, Nat.zero_le _, rfl, rfl, rfl, Below.refl _ _⟩
  case round =>
    obtain ⟨k, hk, rfl, rfl, rfl, hnx⟩ := hrel
    have hsz := (uh hnx).size
    by_cases hlt : k < n
    · have hlt' : (k : Int) < (n : Int) := by omega
      obtain ⟨da, dc, la, lc, h10, -, -⟩ := (uh HC k hlt).below hb (uh hnx)
      have s1 := hide (bytesP_succ ns k (by rw [uh HL]; exact hlt))
      have s2 := hide (namesP_succ ns k (by rw [uh HL]; exact hlt))
      have m1 := uh HM1 (k + 1) (by omega)
      have m2 := uh HM2 (k + 1) (by omega)
      rw [uh s1] at m1
      rw [uh s2] at m2
      generalize bytesP ns k = x at *
      generalize namesP ns k = y at *
      generalize nd ns k = m at *
      obtain ⟨dl, hdl⟩ : ∃ dl, m.data.length = dl := ⟨_, rfl⟩
      obtain ⟨ll, hll⟩ : ∃ ll, m.list.length = ll := ⟨_, rfl⟩
      rw [hdl, hll] at h10
      rw [hdl] at s1 m1
      rw [hll] at s2 m2
      have c0 := h10.c0
      have c1 := h10.c1
      have c2 := h10.c2
      have c3 := h10.c3
      have c4 := h10.c4
      have c5 := h10.c5
      have c6 := h10.c6
      have c7 := h10.c7
      have c8 := h10.c8
      have c9 := h10.c9
      clear h10 hdl hll
      have hB3 : Hid (∀ o, Below w.heap.size w (wr.alloc o)) := fun o => (uh hnx).alloc hsz o
      go_wp2
      go_roundw
      case rel => exact ⟨k + 1, by omega, by rw [uh s1]; go_num, by rw [uh s2]; go_num, by go_num, uh hB3 _⟩
      case measure => simp [intOf]; omega
    · have e : k = n := by omega
      subst e
      have m1 := uh HM1 k (by omega)
      have m2 := uh HM2 k (by omega)
      by_cases q1 : (bytesP ns k : Int) ≤ 1048576
      · have q2 : decide (bytesP ns k ≤ 1048576) = true := by simp; omega
        have Q2 := hide q2
        clear q2
        go_wp2
        go_ret
        refine ⟨?_, uh hnx⟩
        rw [uh Q2, Bool.true_and]
        simp
        omega
      · have Q2 : Hid (decide (bytesP ns k ≤ 1048576) = false) := hide (by simp; omega)
        go_wp2
        go_ret
        refine ⟨?_, uh hnx⟩
        rw [uh Q2, Bool.false_and]
        rfl
end Go.Proofs.YtidhceebafmlkaaGreatDoor.Tr

namespace Go.Proofs.YtidhceebafmlkaaGreatDoor.Tr
open Go.RowKit Cu
def wr (k : Nat) : Int := IntKind.i64.wrap (k : Int)
theorem wr_small (k : Nat) (h : k ≤ 1000000000000) : wr k = (k : Int) := wrap_small _ (by omega) (by omega)
def lv (n : Nat) (T : List Nat) : Array Value := ((List.range n).map fun i => .int .i64 (wr (T.count i))).toArray
theorem lv_size (n : Nat) (T : List Nat) : (lv n T).size = n := by simp [lv]
theorem lv_get (n : Nat) (T : List Nat) (i : Nat) (h : i < n) : (lv n T)[i]? = some (.int .i64 (wr (T.count i))) := by simp [lv, h]
theorem lv_set (n : Nat) (T : List Nat) (k : Nat) : (lv n T).setIfInBounds k (.int .i64 (wr (T.count k + 1))) = lv n (k :: T) := by
  apply Array.ext_getElem?
  intro i
  by_cases hi : i < n
  · rw [lv_get _ _ i hi, Array.getElem?_setIfInBounds]
    by_cases e : k = i
    · subst e; simp [lv_size, hi]
    · rw [if_neg e, lv_get _ _ i hi, List.count_cons_of_ne e]
  · rw [Array.getElem?_eq_none (by simp [lv_size]; omega), Array.getElem?_eq_none (by simp [lv_size]; omega)]
def Li (w : World) (g n : Nat) (T : List Nat) : Prop := w.heap[g]? = some (.cells (lv n T) 3 (0, 0))
theorem Li.cell {w : World} {g n : Nat} {T : List Nat} (h : Li w g n T) (i : Nat) (hi : i < n) : w.cell? ⟨g, i, none⟩ = some (.int .i64 (wr (T.count i))) := by
  rw [cell_of_row _ _ _ _ _ _ h, lv_get _ _ _ hi]
theorem Li.frozen {w : World} {g n : Nat} {T : List Nat} (h : Li w g n T) (i : Nat) : w.frozen? ⟨g, i, none⟩ = false := by
  unfold Li at h
  simp [World.frozen?, h]
theorem Li.lt {w : World} {g n : Nat} {T : List Nat} (h : Li w g n T) : g < w.heap.size := (Array.getElem?_eq_some_iff.1 h).1
theorem Li.set {w : World} {g n : Nat} {T : List Nat} (h : Li w g n T) (k : Nat) (x : Int) (hx : x = wr (T.count k + 1)) : Li (w.setCell ⟨g, k, none⟩ (.int .i64 x)) g n (k :: T) := by
  subst hx
  unfold Li
  rw [heap_setCell_same _ _ _ _ _ _ h]
  rw [lv_set]
theorem Li.below {w w' : World} {g n : Nat} {T : List Nat} (h : Li w g n T) (hb : Below w.heap.size w w') : Li w' g n T := (hb.block g h.lt).trans h
set_option maxRecDepth 100000 in
set_option maxHeartbeats 1000000 in
theorem areListed_any (a : Option Addr) (n cap g : Nat) (ns : List Nd) (T : List Nat) (w : World) (h : Ng w a n cap ns) (hl : Li w g n T) (hn : n ≤ 1000000) (h2 : 2 ≤ n) (hT : ∀ i, T.count i ≤ 1000000000000) :
    Calls Tryz.prog 176 #[.slice a n cap, .slice (some ⟨g, 0, none⟩) n n] w fun e w' => e = .returned (.bool (listedP ns T)) ∧ Below w.heap.size w w' := by
  have hP : listedP ns T = allTo (n - 2) (listedOk ns T) := by unfold listedP; rw [h.len]
  rw [hP]
  clear hP
  rcases h.cells with h0 | ⟨b, off, rfl, hb, hc⟩
  · omega
  have HC := hide hc
  have HT := hide hT
  have HLi := hide hl
  have hgl := hl.lt
  clear hc h hT hl
  obtain ⟨n', hn'⟩ : ∃ n', n' = n - 2 := ⟨_, rfl⟩
  rw [← hn']
  go_enter Tryz.func176, Tryz.ntmps176
  go_wp2
  go_loopw [5] (fun i wr => ∃ k : Nat, k ≤ n' ∧ i = .int .i64 ((k : Int) + 2) ∧ Hid (allTo k (listedOk ns T) = true) ∧ Hid (Below w.heap.size w wr)) (fun i _ => n - (intOf i).toNat)
  case atStart => exact ⟨0, Nat.zero_le _, rfl, rfl, Below.refl _ _⟩
  case round =>
    obtain ⟨k0, hk, rfl, hall, hnx⟩ := hrel
    have hsz := (uh hnx).size
    obtain ⟨k, hk2⟩ : ∃ k, k = k0 + 2 := ⟨_, rfl⟩
    rw [show (k0 : Int) + 2 = (k : Int) by omega]
    by_cases hlt : k < n
    · have hlt' : (k : Int) < (n : Int) := by omega
      obtain ⟨da, dc, la, lc, h10, -, -⟩ := (uh HC k hlt).below hb (uh hnx)
      have hs : Hid (allTo (k0 + 1) (listedOk ns T) = (allTo k0 (listedOk ns T) && oneListed ns T k)) := by rw [hk2]; exact allTo_succ _ _
      have hf : Hid (oneListed ns T k = false → allTo n' (listedOk ns T) = false) := fun h => allTo_false (k := k0) (by omega) (by unfold listedOk; rw [← hk2]; exact h)
      have hcl := (uh HLi).below (uh hnx) |>.cell k hlt
      have hct := uh HT k
      rw [wr_small _ hct] at hcl
      have hO : oneListed ns T k = (decide ((nd ns k).kind = 0) || (!decide (T.count k = 0) && (decide ((nd ns k).kind = 2) || decide ((nd ns k).links = T.count k)))) := rfl
      rw [hO] at hs hf
      clear hO
      generalize nd ns k = m at *
      generalize List.count k T = ct at *
      generalize m.data.length = dl at *
      generalize m.list.length = ll at *
      obtain ⟨kd, md, us, gr, lk, ti, dt, tg, ls, pa⟩ := m
      have c0 := h10.c0
      have c1 := h10.c1
      have c2 := h10.c2
      have c3 := h10.c3
      have c4 := h10.c4
      have c5 := h10.c5
      have c6 := h10.c6
      have c7 := h10.c7
      have c8 := h10.c8
      have c9 := h10.c9
      clear h10
      simp only at c0 c1 c2 c3 c4 c5 c7 c9 hs hf
      have hB3 : Hid (∀ o, Below w.heap.size w (wr.alloc o)) := fun o => (uh hnx).alloc hsz o
      have hgw : g < wr.heap.size := by omega
      have HK := hide hk2
      clear hk2
      by_cases b1 : kd = 0
      · subst b1
        have c0' : wr.cell? ⟨b, off + k * 10, none⟩ = some (.int .u8 0) := c0
        clear c0
        go_wp2
        go_roundw
        case rel => exact ⟨k0 + 1, by have := uh HK; omega, by have := uh HK; go_num, hide (by rw [uh hs, uh hall]; rfl), uh hB3 _⟩
        case measure => simp [intOf]; omega
      have b2 : ¬ (kd.toNat : Int) = 0 := fun e => b1 (UInt8.toNat_inj.1 (by simpa using e))
      rw [show decide (kd = 0) = false by simp [b1], Bool.false_or] at hs hf
      by_cases b3 : ct = 0
      · subst b3
        have hcl' : wr.cell? ⟨g, k, none⟩ = some (.int .i64 0) := hcl
        clear hcl
        have hF := hide (uh hf rfl)
        clear hs hf
        go_wp2
        go_quiet (fail)
        go_wp2
        go_ret
        exact ⟨by rw [uh hF]; rfl, below_drewN (uh hB3 _) _⟩
      have b4 : ((ct : Int) == 0) = false := by simp; omega
      rw [show decide (ct = 0) = false by simp [b3], Bool.not_false, Bool.true_and] at hs hf
      by_cases b5 : kd = 2
      · rw [show decide (kd = 2) = true by simp [b5], Bool.true_or] at hs
        have b6 : (kd.toNat : Int) = 2 := by rw [b5]; rfl
        clear hf b2 b1 b5
        go_wp2
        go_quiet (fail)
        go_wp2
        go_roundw
        case rel => exact ⟨k0 + 1, by have := uh HK; omega, by have := uh HK; go_num, hide (by rw [uh hs, uh hall]; rfl), below_drewN (uh hB3 _) _⟩
        case measure => simp [intOf]; omega
      have b6 : ¬ (kd.toNat : Int) = 2 := fun e => b5 (UInt8.toNat_inj.1 (by show kd.toNat = 2; omega))
      rw [show decide (kd = 2) = false by simp [b5], Bool.false_or] at hs hf
      by_cases b7 : lk = ct
      · rw [show decide (lk = (ct : Int)) = true by simp [b7]] at hs
        clear hf
        subst b7
        go_wp2
        go_quiet (fail)
        go_wp2
        go_roundw
        case rel => exact ⟨k0 + 1, by have := uh HK; omega, by have := uh HK; go_num, hide (by rw [uh hs, uh hall]; rfl), below_drewN (uh hB3 _) _⟩
        case measure => simp [intOf]; omega
      · have hF := hide (uh hf (by simp [b7]))
        have b8 : (lk != (ct : Int)) = true := by simp [b7]
        have b9 : (kd.toNat : Int) != 2 := by simp; omega
        clear hs hf b7
        go_wp2
        go_quiet (fail)
        go_wp2
        go_ret
        exact ⟨by rw [uh hF]; rfl, below_drewN (uh hB3 _) _⟩
    · have e : k0 = n' := by omega
      subst e
      have hge : (n : Int) ≤ (k : Int) := by omega
      go_wp2
      go_ret
      exact ⟨by rw [uh hall]; rfl, uh hnx⟩
end Go.Proofs.YtidhceebafmlkaaGreatDoor.Tr

namespace Go.Proofs.YtidhceebafmlkaaGreatDoor.Tr
open Go.RowKit Cu
def Once (ns : List Nd) (T : List Nat) : Prop := ∀ x, (nd ns x).kind = 2 → T.count x ≤ 1
theorem goL_once (ns : List Nd) (vis : Nat → List Nat → Option (List Nat)) (hv : ∀ x T T', Once ns T → vis x T = some T' → Once ns T') (dir : Nat) : ∀ (l : List En) (T : List Nat) (d : Nat) (T' : List Nat) (d' : Nat), Once ns T → goL ns vis dir l T d = some (T', d') → Once ns T' := by
  intro l
  induction l with
  | nil => intro T d T' d' h e; simp [goL] at e; rw [← e.1]; exact h
  | cons e l ih =>
    intro T d T' d' h hg
    unfold goL at hg
    split at hg
    · cases hg
    split at hg
    · cases hg
    split at hg
    · rename_i hk2
      split at hg
      · cases hg
      · rename_i hc
        split at hg
        · cases hg
        · rename_i T1 hT1
          refine ih _ _ _ _ (hv _ _ _ ?_ hT1) hg
          intro x hx
          by_cases ex : x = e.node.toNat
          · subst ex; omega
          · rw [List.count_cons_of_ne (Ne.symm ex)]; exact h x hx
    · rename_i hk0 hk2
      refine ih _ _ _ _ ?_ hg
      intro x hx
      by_cases ex : x = e.node.toNat
      · subst ex; exact absurd hx hk2
      · rw [List.count_cons_of_ne (Ne.symm ex)]; exact h x hx
theorem visitP_once (ns : List Nd) : ∀ (f x : Nat) (T T' : List Nat), Once ns T → visitP ns f x T = some T' → Once ns T' := by
  intro f
  induction f with
  | zero => intro x T T' _ h; cases h
  | succ f ih =>
    intro x T T' ho h
    unfold visitP at h
    split at h
    · cases h
    · rename_i T1 d hg
      split at h
      · cases h; exact goL_once ns _ (fun x T T' h1 h2 => ih x T T' h1 h2) _ _ _ _ _ _ ho hg
      · cases h
def sumTo (n : Nat) (g : Nat → Nat) : Nat := ((List.range n).map g).sum
theorem sumTo_succ (n : Nat) (g : Nat → Nat) : sumTo (n + 1) g = sumTo n g + g n := by simp [sumTo, List.range_succ]
theorem sumTo_le (n : Nat) (g h : Nat → Nat) (hh : ∀ i, i < n → g i ≤ h i) : sumTo n g ≤ sumTo n h := by
  induction n with
  | zero => exact Nat.le_refl _
  | succ n ih =>
    rw [sumTo_succ, sumTo_succ]
    have h1 := ih fun i hi => hh i (by omega)
    have h2 := hh n (by omega)
    omega
theorem sumTo_eq (n : Nat) (g h : Nat → Nat) (hh : ∀ i, i < n → g i = h i) : sumTo n g = sumTo n h :=
  Nat.le_antisymm (sumTo_le n g h fun i hi => Nat.le_of_eq (hh i hi)) (sumTo_le n h g fun i hi => Nat.le_of_eq (hh i hi).symm)
theorem sumTo_add (n : Nat) (g h : Nat → Nat) : sumTo n (fun i => g i + h i) = sumTo n g + sumTo n h := by
  induction n with
  | zero => rfl
  | succ n ih => rw [sumTo_succ, sumTo_succ, sumTo_succ, ih]; omega
theorem sumTo_zero (n : Nat) : sumTo n (fun _ => 0) = 0 := by
  induction n with
  | zero => rfl
  | succ n ih => rw [sumTo_succ, ih]
theorem sumTo_one (n x : Nat) (g : Nat → Nat) (hx : x < n) : sumTo n (fun i => if i = x then g i else 0) = g x := by
  induction n with
  | zero => omega
  | succ n ih =>
    rw [sumTo_succ]
    by_cases e : x = n
    · subst e
      rw [sumTo_eq x _ (fun _ => 0) (fun i hi => by rw [if_neg (by omega)]), sumTo_zero, if_pos rfl]; omega
    · rw [ih (by omega), if_neg (by omega)]; rfl
theorem sum_count (n : Nat) (g : Nat → Nat) : ∀ T : List Nat, (∀ x ∈ T, x < n) → (T.map g).sum = sumTo n (fun i => T.count i * g i) := by
  intro T
  induction T with
  | nil => intro _; simp [sumTo_zero]
  | cons x T ih =>
    intro h
    have e : sumTo n (fun i => (x :: T).count i * g i) = sumTo n (fun i => T.count i * g i + if i = x then g i else 0) := by
      refine sumTo_eq n _ _ fun i _ => ?_
      by_cases ex : i = x
      · subst ex; rw [List.count_cons_self, if_pos rfl, Nat.add_mul, Nat.one_mul]
      · rw [List.count_cons_of_ne (Ne.symm ex), if_neg ex]; rfl
    rw [e, sumTo_add, sumTo_one n x g (h x (by simp)), List.map_cons, List.sum_cons, ih fun y hy => h y (by simp [hy])]
    omega
def tg (ns : List Nd) (d : Nat) : List Nat := (nd ns d).list.map fun e => e.node.toNat
def wsum (wt : Nat → Nat) (T : List Nat) : Nat := (T.map wt).sum
def below (ns : List Nd) (wt : Nat → Nat) (x : Nat) : Nat := if (nd ns x).kind = 2 then wsum wt (tg ns x) else 0
theorem wsum_cons (wt : Nat → Nat) (x : Nat) (T : List Nat) : wsum wt (x :: T) = wt x + wsum wt T := by simp [wsum]
theorem goL_sum (ns : List Nd) (wt : Nat → Nat) (vis : Nat → List Nat → Option (List Nat))
    (hv : ∀ x T T', vis x T = some T' → wsum wt T' + wsum (below ns wt) T = wsum wt T + wsum (below ns wt) T' + wsum wt (tg ns x)) (dir : Nat) :
    ∀ (l : List En) (T : List Nat) (d : Nat) (T' : List Nat) (d' : Nat), goL ns vis dir l T d = some (T', d') →
      wsum wt T' + wsum (below ns wt) T = wsum wt T + wsum (below ns wt) T' + wsum wt (l.map fun e => e.node.toNat) := by
  intro l
  induction l with
  | nil => intro T d T' d' e; simp [goL] at e; obtain ⟨rfl, rfl⟩ := e; simp [wsum]
  | cons e l ih =>
    intro T d T' d' hg
    rw [List.map_cons, wsum_cons]
    unfold goL at hg
    split at hg
    · cases hg
    split at hg
    · cases hg
    split at hg
    · rename_i hk2
      split at hg
      · cases hg
      · split at hg
        · cases hg
        · rename_i T1 hT1
          have h1 := hv _ _ _ hT1
          have h2 := ih _ _ _ _ hg
          rw [wsum_cons, wsum_cons] at h1
          have h3 : below ns wt e.node.toNat = wsum wt (tg ns e.node.toNat) := by unfold below; rw [if_pos hk2]
          omega
    · rename_i hk0 hk2
      have h2 := ih _ _ _ _ hg
      rw [wsum_cons, wsum_cons] at h2
      have h3 : below ns wt e.node.toNat = 0 := by unfold below; rw [if_neg hk2]
      omega
theorem visitP_sum (ns : List Nd) (wt : Nat → Nat) : ∀ (f x : Nat) (T T' : List Nat), visitP ns f x T = some T' → wsum wt T' + wsum (below ns wt) T = wsum wt T + wsum (below ns wt) T' + wsum wt (tg ns x) := by
  intro f
  induction f with
  | zero => intro x T T' h; cases h
  | succ f ih =>
    intro x T T' h
    unfold visitP at h
    split at h
    · cases h
    · rename_i T1 d hg
      split at h
      · cases h; exact goL_sum ns wt _ (fun x T T' h => ih x T T' h) _ _ _ _ _ _ hg
      · cases h
theorem goL_in (ns : List Nd) (vis : Nat → List Nat → Option (List Nat)) (p : Nat → Prop) (hp : ∀ x, 1 < x → x < ns.length → (nd ns x).kind ≠ 0 → p x) (hv : ∀ x T T', (∀ y ∈ T, p y) → vis x T = some T' → ∀ y ∈ T', p y) (dir : Nat) :
    ∀ (l : List En) (T : List Nat) (d : Nat) (T' : List Nat) (d' : Nat), (∀ y ∈ T, p y) → goL ns vis dir l T d = some (T', d') → ∀ y ∈ T', p y := by
  intro l
  induction l with
  | nil => intro T d T' d' h e; simp [goL] at e; rw [← e.1]; exact h
  | cons e l ih =>
    intro T d T' d' h hg
    unfold goL at hg
    split at hg
    · cases hg
    rename_i hr
    split at hg
    · cases hg
    rename_i hk0
    have hnew : ∀ y ∈ e.node.toNat :: T, p y := by
      intro y hy
      rcases List.mem_cons.1 hy with rfl | hy
      · exact hp _ (by omega) (by omega) hk0
      · exact h y hy
    split at hg
    · split at hg
      · cases hg
      · split at hg
        · cases hg
        · rename_i T1 hT1
          exact ih _ _ _ _ (hv _ _ _ hnew hT1) hg
    · exact ih _ _ _ _ hnew hg
theorem visitP_in (ns : List Nd) (p : Nat → Prop) (hp : ∀ x, 1 < x → x < ns.length → (nd ns x).kind ≠ 0 → p x) : ∀ (f x : Nat) (T T' : List Nat), (∀ y ∈ T, p y) → visitP ns f x T = some T' → ∀ y ∈ T', p y := by
  intro f
  induction f with
  | zero => intro x T T' _ h; cases h
  | succ f ih =>
    intro x T T' hT h
    unfold visitP at h
    split at h
    · cases h
    · rename_i T1 d hg
      split at h
      · cases h; exact goL_in ns _ p hp (fun x T T' h1 h => ih x T T' h1 h) _ _ _ _ _ _ hT hg
      · cases h
theorem once_nil (ns : List Nd) : Once ns [] := fun _ _ => by simp
theorem names_sum (ns : List Nd) : ∀ k, k ≤ ns.length → namesP ns k = sumTo k (fun i => (nd ns i).list.length) := by
  intro k
  induction k with
  | zero => intro _; simp [namesP, sumTo]
  | succ k ih =>
    intro h
    have e : ns.take (k + 1) = ns.take k ++ [nd ns k] := by
      rw [List.take_succ_eq_append_getElem (by omega)]; simp [nd, List.getD, List.getElem?_eq_getElem (show k < ns.length by omega)]
    rw [sumTo_succ, ← ih (by omega)]
    unfold namesP
    rw [e]; simp
theorem wsum_one (T : List Nat) : wsum (fun _ => 1) T = T.length := by
  unfold wsum
  induction T with
  | nil => rfl
  | cons x T ih => rw [List.map_cons, List.sum_cons, ih, List.length_cons]; omega
theorem visit_len (ns : List Nd) (f : Nat) (T : List Nat) (h1 : 1 < ns.length) (h : visitP ns f 1 [] = some T) : T.length ≤ 2 * namesP ns ns.length := by
  have hs := visitP_sum ns (fun _ => 1) f 1 [] T h
  have ho := visitP_once ns f 1 [] T (once_nil ns) h
  have hi := visitP_in ns (fun x => x < ns.length) (fun x _ h2 _ => h2) f 1 [] T (by simp) h
  simp only [wsum_one] at hs
  rw [show wsum (below ns fun _ => 1) [] = 0 from rfl, List.length_nil] at hs
  have e1 : wsum (below ns fun _ => 1) T ≤ namesP ns ns.length := by
    rw [names_sum ns ns.length (Nat.le_refl _)]
    unfold wsum
    rw [sum_count ns.length _ T hi]
    refine sumTo_le _ _ _ fun i _ => ?_
    unfold below
    split
    · rename_i hk
      have := ho i hk
      rw [wsum_one]
      unfold tg
      rw [List.length_map]
      calc T.count i * (nd ns i).list.length ≤ 1 * (nd ns i).list.length := Nat.mul_le_mul_right _ this
        _ = _ := Nat.one_mul _
    · simp
  have e2 : (tg ns 1).length ≤ namesP ns ns.length := by
    rw [names_sum ns ns.length (Nat.le_refl _)]
    have := sumTo_le ns.length (fun i => if i = 1 then (nd ns i).list.length else 0) (fun i => (nd ns i).list.length) (fun i _ => by split <;> omega)
    rw [sumTo_one ns.length 1 (fun i => (nd ns i).list.length) h1] at this
    unfold tg
    rw [List.length_map]; exact this
  omega
end Go.Proofs.YtidhceebafmlkaaGreatDoor.Tr
