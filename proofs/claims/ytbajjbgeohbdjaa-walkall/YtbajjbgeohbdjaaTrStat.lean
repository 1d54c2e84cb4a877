/- What Sizes, sizeOf and Stat answer. -/
import Derived.Test.YtbajjbgeohbdjaaTrTells
namespace Go.Proofs.Ytbajjbgeohbdjaa.Tr
open Go.RowKit Go.Proofs.Ytbajjbgeohbdjaa.Cu

def nodesN (ns : List Nd) (k : Nat) : Nat := ((ns.take k).filter fun n => decide (n.kind ≠ 0)).length
theorem nodesN_succ (ns : List Nd) (k : Nat) (h : k < ns.length) : nodesN ns (k + 1) = nodesN ns k + (if (nd ns k).kind = 0 then 0 else 1) := by
  unfold nodesN; rw [take_nd ns k h, List.filter_append, List.length_append]
  by_cases e : (nd ns k).kind = 0
  · simp [e]
  · simp [e]
theorem nodesN_le (ns : List Nd) (k : Nat) : nodesN ns k ≤ k := by
  unfold nodesN
  exact Nat.le_trans (List.length_filter_le _ _) (by rw [List.length_take]; omega)
def sizesV (now : Int) (ns : List Nd) : Value := if checkP now ns then .tuple #[.int .i64 (nodesN ns ns.length), .int .i64 (bytesP ns ns.length)] else .tuple #[.int .i64 0, .int .i64 0]
set_option maxRecDepth 100000 in
set_option maxHeartbeats 1000000 in
theorem sizes_any (a : Option Addr) (n cap : Nat) (ns : List Nd) (now : Int) (w : World) (h : Ng w a n cap ns) (hs : Sm ns) :
    Calls Try.prog 9 #[.agg #[.slice a n cap, .int .i64 now]] w fun e w' => e = .returned (sizesV now ns) ∧ Below w.heap.size w w' := by
  have HC : Hid (∀ W, Below w.heap.size w W → Calls Try.prog 8 #[.agg #[.slice a n cap, .int .i64 now]] W fun e w' => e = .returned (.bool (checkP now ns)) ∧ Below W.heap.size W w') := fun W hW => checkAny now (h.below hW) hs
  have hlen := h.len
  have hQ : Hid (checkP now ns = true → 2 ≤ n) := fun q => by rw [← hlen]; exact checkP_two q
  have HM1 : Hid (∀ k, k ≤ n → bytesP ns k ≤ 1000000000) := fun k hk => Nat.le_trans (bytesP_mono ns k (by rw [h.len]; exact hk)) hs.hby
  have hn : n ≤ 1000000 := by rw [← hlen]; exact hs.hn
  unfold sizesV
  rw [hlen]
  have HL := hide hlen
  clear hlen hs
  have HG := hide h
  clear h
  generalize checkP now ns = q at *
  have hb0 : Hid (Below w.heap.size w (w.alloc (.cells #[.slice a n cap, .int .i64 now] 24))) := (Below.refl _ _).alloc (Nat.le_refl _) _
  cases q with
  | false =>
    simp only [Bool.false_eq_true, if_false]
    go_enter Try.func9, Try.ntmps9
    go_wp2_with fail
    refine (unhide HC _ (unhide hb0)).mono ?_
    rintro e w1 ⟨rfl, b1⟩
    have hB := hide (box_keep b1).2.1
    clear b1 HC HG
    go_wp2
    go_ret2
    exact ⟨rfl, unhide hB⟩
  | true =>
    simp only [if_true]
    have h2 := unhide hQ rfl
    rcases (unhide HG).cells with h0 | ⟨b, off, rfl, hb, hc⟩
    · omega
    have HX := hide hc
    clear hc HG
    go_enter Try.func9, Try.ntmps9
    go_wp2_with fail
    refine (unhide HC _ (unhide hb0)).mono ?_
    rintro e w1 ⟨rfl, b1⟩
    have hB := hide (box_keep b1).2.1
    have c0 : w1.cell? ⟨w.heap.size, 0, none⟩ = some (.slice (some ⟨b, off, none⟩) n cap) := by rw [cell_of_row _ _ _ _ _ _ (box_keep b1).1]; rfl
    clear b1 HC
    go_wp2
    clear c0
    go_loopw [2, 3, 12] (fun x y i wr => ∃ k : Nat, k ≤ n ∧ x = .int .i64 (nodesN ns k) ∧ y = .int .i64 (bytesP ns k) ∧ i = .int .i64 k ∧ Hid (Below w.heap.size w wr)) (fun _ _ i _ => n - (intOf i).toNat)
    case atStart => exact ⟨0, Nat.zero_le _, rfl, rfl, rfl, hB⟩
    case round =>
      clear hB
      obtain ⟨k, hk, rfl, rfl, rfl, hnx⟩ := hrel
      have hsz := (unhide hnx).size
      by_cases hlt : k < n
      · have hlt' : (k : Int) < (n : Int) := by omega
        obtain ⟨da, dc, la, lc, h10, -, -⟩ := (unhide HX k hlt).below hb (unhide hnx)
        have s1 := hide (bytesP_succ ns k (by rw [unhide HL]; exact hlt))
        have s2 := hide (nodesN_succ ns k (by rw [unhide HL]; exact hlt))
        have m1 := unhide HM1 (k + 1) (by omega)
        have m2 := nodesN_le ns k
        rw [unhide s1] at m1
        generalize bytesP ns k = x at *
        generalize nodesN ns k = y at *
        generalize nd ns k = m at *
        obtain ⟨dl, hdl⟩ : ∃ dl, m.data.length = dl := ⟨_, rfl⟩
        obtain ⟨ll, hll⟩ : ∃ ll, m.list.length = ll := ⟨_, rfl⟩
        rw [hdl, hll] at h10
        rw [hdl] at s1 m1
        have c0 := h10.c0
        have c1 := h10.c1
        have c2 := h10.c2
        have c3 := h10.c3
        have c4 := h10.c4
        have c5 := h10.c5
        have c6 := h10.c6
        have c7 := h10.c7
        have c8 := h10.c8
        have c9 := h10.c9
        clear h10 hdl hll
        have hB3 : Hid (∀ o, Below w.heap.size w (wr.alloc o)) := fun o => (unhide hnx).alloc hsz o
        obtain ⟨kd, md, us, gr, lk, ti, dt, tg, ls, pa⟩ := m
        simp only at c0 c1 c2 c3 c4 c5 c6 c7 c8 c9 s2
        by_cases a1 : kd = 0
        · rw [if_pos a1] at s2
          have c0' : wr.cell? ⟨b, off + k * 10, none⟩ = some (.int .u8 0) := by rw [c0, a1]; rfl
          clear c0 a1
          go_wp2
          go_roundw
          case rel => exact ⟨k + 1, by omega, by rw [unhide s2]; rfl, by rw [unhide s1]; go_num, by go_num, unhide hB3 _⟩
          case measure => simp [intOf]; omega
        · rw [if_neg a1] at s2
          have a2 : ¬ (kd.toNat : Int) = 0 := fun e => a1 (UInt8.toNat_inj.1 (by simpa using e))
          go_wp2
          go_roundw
          case rel => exact ⟨k + 1, by omega, by rw [unhide s2]; go_num, by rw [unhide s1]; go_num, by go_num, unhide hB3 _⟩
          case measure => simp [intOf]; omega
      · have e : k = n := by omega
        subst e
        go_wp2
        go_ret2
        exact ⟨rfl, unhide hnx⟩
def sizeP (n : Nd) : Nat := if n.kind = 1 then n.data.length else if n.kind = 2 then n.list.length else if n.kind = 3 then n.target.size else 0
set_option maxRecDepth 100000 in
set_option maxHeartbeats 1000000 in
theorem sizeOf_any (n : Nd) (da : Option Addr) (dl dc : Nat) (la : Option Addr) (ll lc : Nat) (w : World) (hd : n.data.length = dl) (hl : n.list.length = ll) :
    Calls Try.prog 73 #[.agg (na n (.slice da dl dc) (.slice la ll lc))] w fun e w' => e = .returned (.int .i64 (sizeP n)) ∧ w' = w.alloc (nO n (.slice da dl dc) (.slice la ll lc)) := by
  unfold sizeP
  rw [hd, hl]
  clear hd hl
  obtain ⟨kd, md, us, gr, lk, ti, dt, tg, ls, pa⟩ := n
  unfold nO na
  simp only
  by_cases a1 : kd = 1
  · subst a1
    go_enter Try.func73, Try.ntmps73
    go_wp2
    go_ret
    exact ⟨rfl, rfl⟩
  by_cases a2 : kd = 2
  · subst a2
    go_enter Try.func73, Try.ntmps73
    go_wp2
    go_ret
    exact ⟨rfl, rfl⟩
  by_cases a3 : kd = 3
  · subst a3
    go_enter Try.func73, Try.ntmps73
    go_wp2
    go_ret
    exact ⟨rfl, rfl⟩
  rw [if_neg a1, if_neg a2, if_neg a3]
  have b1 : ¬ (kd.toNat : Int) = 1 := fun e => a1 (UInt8.toNat_inj.1 (by show kd.toNat = 1; omega))
  have b2 : ¬ (kd.toNat : Int) = 2 := fun e => a2 (UInt8.toNat_inj.1 (by show kd.toNat = 2; omega))
  have b3 : ¬ (kd.toNat : Int) = 3 := fun e => a3 (UInt8.toNat_inj.1 (by show kd.toNat = 3; omega))
  go_enter Try.func73, Try.ntmps73
  go_wp2
  go_ret
  exact ⟨rfl, rfl⟩
end Go.Proofs.Ytbajjbgeohbdjaa.Tr
