/- What areListed, the closure visit and hangsTogether answer. -/
import Derived.Test.YtbajjbgeohbdjaaTrRoot
namespace Go.Proofs.Ytbajjbgeohbdjaa.Tr
open Go.RowKit Go.Proofs.Ytbajjbgeohbdjaa.Cu

/-- how often, as the machine counts -/
def wr (k : Nat) : Int := IntKind.i64.wrap (k : Int)
theorem wr_small (k : Nat) (h : k ≤ 1000000000000) : wr k = (k : Int) := wrap_small _ (by omega) (by omega)
theorem wr_succ (k : Nat) : IntKind.i64.wrap (wr k + 1) = wr (k + 1) := by
  unfold wr
  rw [IntWalk.i64_left, IntWalk.i64_left, IntWalk.i64_left]
  unfold wrap64
  omega
/-- how often each of n nodes was listed -/
def lv (n : Nat) (T : List Nat) : Array Value := ((List.range n).map fun i => .int .i64 (wr (T.count i))).toArray
theorem lv_size (n : Nat) (T : List Nat) : (lv n T).size = n := by simp [lv]
theorem lv_get (n : Nat) (T : List Nat) (i : Nat) (h : i < n) : (lv n T)[i]? = some (.int .i64 (wr (T.count i))) := by simp [lv, h]
theorem lv_set (n : Nat) (T : List Nat) (k : Nat) : (lv n T).setIfInBounds k (.int .i64 (wr (T.count k + 1))) = lv n (k :: T) := by
  apply Array.ext_getElem?
  intro i
  by_cases hi : i < n
  · rw [lv_get _ _ i hi, Array.getElem?_setIfInBounds]
    by_cases e : k = i
    · subst e; simp [lv_size, hi]
    · rw [if_neg e, lv_get _ _ i hi, List.count_cons_of_ne e]
  · rw [Array.getElem?_eq_none (by simp [lv_size]; omega), Array.getElem?_eq_none (by simp [lv_size]; omega)]
def Li (w : World) (g n : Nat) (T : List Nat) : Prop := w.heap[g]? = some (.cells (lv n T) 3 (0, 0))
theorem Li.cell {w : World} {g n : Nat} {T : List Nat} (h : Li w g n T) (i : Nat) (hi : i < n) : w.cell? ⟨g, i, none⟩ = some (.int .i64 (wr (T.count i))) := by
  rw [cell_of_row _ _ _ _ _ _ h, lv_get _ _ _ hi]
theorem Li.frozen {w : World} {g n : Nat} {T : List Nat} (h : Li w g n T) (i : Nat) : w.frozen? ⟨g, i, none⟩ = false := by
  unfold Li at h
  simp [World.frozen?, h]
theorem Li.lt {w : World} {g n : Nat} {T : List Nat} (h : Li w g n T) : g < w.heap.size := (Array.getElem?_eq_some_iff.1 h).1
theorem Li.set {w : World} {g n : Nat} {T : List Nat} (h : Li w g n T) (k : Nat) (x : Int) (hx : x = wr (T.count k + 1)) : Li (w.setCell ⟨g, k, none⟩ (.int .i64 x)) g n (k :: T) := by
  subst hx
  unfold Li
  rw [heap_setCell_same _ _ _ _ _ _ h]
  rw [lv_set]
theorem Li.below {w w' : World} {g n : Nat} {T : List Nat} (h : Li w g n T) (hb : Below w.heap.size w w') : Li w' g n T := (hb.block g h.lt).trans h

set_option maxRecDepth 100000 in
set_option maxHeartbeats 1000000 in
theorem areListed_any (a : Option Addr) (n cap g : Nat) (ns : List Nd) (T : List Nat) (w : World) (h : Ng w a n cap ns) (hl : Li w g n T) (hn : n ≤ 1000000) (h2 : 2 ≤ n) (hT : ∀ i, T.count i ≤ 1000000000000) :
    Calls Try.prog 39 #[.slice a n cap, .slice (some ⟨g, 0, none⟩) n n] w fun e w' => e = .returned (.bool (listedP ns T)) ∧ Below w.heap.size w w' := by
  have hP : listedP ns T = allTo (n - 2) (listedOk ns T) := by unfold listedP; rw [h.len]
  rw [hP]
  clear hP
  rcases h.cells with h0 | ⟨b, off, rfl, hb, hc⟩
  · omega
  have HC := hide hc
  have HT := hide hT
  have HLi := hide hl
  have hgl := hl.lt
  clear hc h hT hl
  obtain ⟨n', hn'⟩ : ∃ n', n' = n - 2 := ⟨_, rfl⟩
  rw [← hn']
  go_enter Try.func39, Try.ntmps39
  go_wp2
  go_loopw [5] (fun i wr => ∃ k : Nat, k ≤ n' ∧ i = .int .i64 ((k : Int) + 2) ∧ Hid (allTo k (listedOk ns T) = true) ∧ Hid (Below w.heap.size w wr)) (fun i _ => n - (intOf i).toNat)
  case atStart => exact ⟨0, Nat.zero_le _, rfl, rfl, Below.refl _ _⟩
  case round =>
    obtain ⟨k0, hk, rfl, hall, hnx⟩ := hrel
    have hsz := (unhide hnx).size
    obtain ⟨k, hk2⟩ : ∃ k, k = k0 + 2 := ⟨_, rfl⟩
    rw [show (k0 : Int) + 2 = (k : Int) by omega]
    by_cases hlt : k < n
    · have hlt' : (k : Int) < (n : Int) := by omega
      obtain ⟨da, dc, la, lc, h10, -, -⟩ := (unhide HC k hlt).below hb (unhide hnx)
      have hs : Hid (allTo (k0 + 1) (listedOk ns T) = (allTo k0 (listedOk ns T) && oneListed ns T k)) := by rw [hk2]; exact allTo_succ _ _
      have hf : Hid (oneListed ns T k = false → allTo n' (listedOk ns T) = false) := fun h => allTo_false (k := k0) (by omega) (by unfold listedOk; rw [← hk2]; exact h)
      have hcl := (unhide HLi).below (unhide hnx) |>.cell k hlt
      have hct := unhide HT k
      rw [wr_small _ hct] at hcl
      have hO : oneListed ns T k = (decide ((nd ns k).kind = 0) || (!decide (T.count k = 0) && (decide ((nd ns k).kind = 2) || decide ((nd ns k).links = T.count k)))) := rfl
      rw [hO] at hs hf
      clear hO
      generalize nd ns k = m at *
      generalize List.count k T = ct at *
      generalize m.data.length = dl at *
      generalize m.list.length = ll at *
      obtain ⟨kd, md, us, gr, lk, ti, dt, tg, ls, pa⟩ := m
      have c0 := h10.c0
      have c1 := h10.c1
      have c2 := h10.c2
      have c3 := h10.c3
      have c4 := h10.c4
      have c5 := h10.c5
      have c6 := h10.c6
      have c7 := h10.c7
      have c8 := h10.c8
      have c9 := h10.c9
      clear h10
      simp only at c0 c1 c2 c3 c4 c5 c7 c9 hs hf
      have hB3 : Hid (∀ o, Below w.heap.size w (wr.alloc o)) := fun o => (unhide hnx).alloc hsz o
      have hgw : g < wr.heap.size := by omega
      have HK := hide hk2
      clear hk2
      by_cases b1 : kd = 0
      · subst b1
        have c0' : wr.cell? ⟨b, off + k * 10, none⟩ = some (.int .u8 0) := c0
        clear c0
        go_wp2
        go_roundw
        case rel => exact ⟨k0 + 1, by have := unhide HK; omega, by have := unhide HK; go_num, hide (by rw [unhide hs, unhide hall]; rfl), unhide hB3 _⟩
        case measure => simp [intOf]; omega
      have b2 : ¬ (kd.toNat : Int) = 0 := fun e => b1 (UInt8.toNat_inj.1 (by simpa using e))
      rw [show decide (kd = 0) = false by simp [b1], Bool.false_or] at hs hf
      by_cases b3 : ct = 0
      · subst b3
        have hcl' : wr.cell? ⟨g, k, none⟩ = some (.int .i64 0) := hcl
        clear hcl
        have hF := hide (unhide hf rfl)
        clear hs hf
        go_wp2
        go_quiet (fail)
        go_wp2
        go_ret
        exact ⟨by rw [unhide hF]; rfl, below_drewN (unhide hB3 _) _⟩
      have b4 : ((ct : Int) == 0) = false := by simp; omega
      rw [show decide (ct = 0) = false by simp [b3], Bool.not_false, Bool.true_and] at hs hf
      by_cases b5 : kd = 2
      · rw [show decide (kd = 2) = true by simp [b5], Bool.true_or] at hs
        have b6 : (kd.toNat : Int) = 2 := by rw [b5]; rfl
        clear hf b2 b1 b5
        go_wp2
        go_quiet (fail)
        go_wp2
        go_roundw
        case rel => exact ⟨k0 + 1, by have := unhide HK; omega, by have := unhide HK; go_num, hide (by rw [unhide hs, unhide hall]; rfl), below_drewN (unhide hB3 _) _⟩
        case measure => simp [intOf]; omega
      have b6 : ¬ (kd.toNat : Int) = 2 := fun e => b5 (UInt8.toNat_inj.1 (by show kd.toNat = 2; omega))
      rw [show decide (kd = 2) = false by simp [b5], Bool.false_or] at hs hf
      by_cases b7 : lk = ct
      · rw [show decide (lk = (ct : Int)) = true by simp [b7]] at hs
        clear hf
        subst b7
        go_wp2
        go_quiet (fail)
        go_wp2
        go_roundw
        case rel => exact ⟨k0 + 1, by have := unhide HK; omega, by have := unhide HK; go_num, hide (by rw [unhide hs, unhide hall]; rfl), below_drewN (unhide hB3 _) _⟩
        case measure => simp [intOf]; omega
      · have hF := hide (unhide hf (by simp [b7]))
        have b8 : (lk != (ct : Int)) = true := by simp [b7]
        have b9 : (kd.toNat : Int) != 2 := by simp; omega
        clear hs hf b7
        go_wp2
        go_quiet (fail)
        go_wp2
        go_ret
        exact ⟨by rw [unhide hF]; rfl, below_drewN (unhide hB3 _) _⟩
    · have e : k0 = n' := by omega
      subst e
      have hge : (n : Int) ≤ (k : Int) := by omega
      go_wp2
      go_ret
      exact ⟨by rw [unhide hall]; rfl, unhide hnx⟩
end Go.Proofs.Ytbajjbgeohbdjaa.Tr
