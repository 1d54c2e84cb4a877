import Derived.Test.YtidhceebafmlkaaGreatDoorTrGreat
namespace Go.Proofs.YtidhceebafmlkaaGreatDoor.Tr
open Go.RowKit Cu
def nodesN (ns : List Nd) (k : Nat) : Nat := ((ns.take k).filter fun n => decide (n.kind ≠ 0)).length
theorem nodesN_succ (ns : List Nd) (k : Nat) (h : k < ns.length) : nodesN ns (k + 1) = nodesN ns k + (if (nd ns k).kind = 0 then 0 else 1) := by
  unfold nodesN; rw [take_nd ns k h, List.filter_append, List.length_append]
  by_cases e : (nd ns k).kind = 0
  · simp [e]
  · simp [e]
theorem nodesN_le (ns : List Nd) (k : Nat) : nodesN ns k ≤ k := by
  unfold nodesN
  exact Nat.le_trans (List.length_filter_le _ _) (by rw [List.length_take]; omega)
def sizesV (now : Int) (ns : List Nd) : Value := if checkP now ns then .tuple #[.int .i64 (nodesN ns ns.length), .int .i64 (bytesP ns ns.length)] else .tuple #[.int .i64 0, .int .i64 0]
set_option maxRecDepth 100000 in
set_option maxHeartbeats 1000000 in
theorem sizes_any (a : Option Addr) (n cap : Nat) (ns : List Nd) (now : Int) (w : World) (h : Ng w a n cap ns) (hs : Sm ns) :
    Calls Tryz.prog 242 #[.agg #[.slice a n cap, .int .i64 now]] w fun e w' => e = .returned (sizesV now ns) ∧ Below w.heap.size w w' := by
  have HC : Hid (∀ W, Below w.heap.size w W → Calls Tryz.prog 36 #[.agg #[.slice a n cap, .int .i64 now]] W fun e w' => e = .returned (.bool (checkP now ns)) ∧ Below W.heap.size W w') := fun W hW => checkAny now (h.below hW) hs
  have hlen := h.len
  have hQ : Hid (checkP now ns = true → 2 ≤ n) := fun q => by rw [← hlen]; exact checkP_two q
  have HM1 : Hid (∀ k, k ≤ n → bytesP ns k ≤ 1000000000) := fun k hk => Nat.le_trans (bytesP_mono ns k (by rw [h.len]; exact hk)) hs.hby
  have hn : n ≤ 1000000 := by rw [← hlen]; exact hs.hn
  unfold sizesV
  rw [hlen]
  have HL := hide hlen
  clear hlen hs
  have HG := hide h
  clear h
  generalize checkP now ns = q at *
  have hb0 : Hid (Below w.heap.size w (w.alloc (.cells #[.slice a n cap, .int .i64 now] 24))) := (Below.refl _ _).alloc (Nat.le_refl _) _
  cases q with
  | false =>
    simp only [Bool.false_eq_true, if_false]
    go_enter Tryz.func242, Tryz.ntmps242
    go_wp2_with fail
    refine (uh HC _ (uh hb0)).mono ?_
    rintro e w1 ⟨rfl, b1⟩
    have hB := hide (box_keep b1).2.1
    clear b1 HC HG
    go_wp2
    go_ret2
    exact ⟨rfl, uh hB⟩
  | true =>
    simp only [if_true]
    have h2 := uh hQ rfl
    rcases (uh HG).cells with h0 | ⟨b, off, rfl, hb, hc⟩
    · omega
    have HX := hide hc
    clear hc HG
    go_enter Tryz.func242, Tryz.ntmps242
    go_wp2_with fail
    refine (uh HC _ (uh hb0)).mono ?_
    rintro e w1 ⟨rfl, b1⟩
    have hB := hide (box_keep b1).2.1
    have c0 : w1.cell? ⟨w.heap.size, 0, none⟩ = some (.slice (some ⟨b, off, none⟩) n cap) := by rw [cell_of_row _ _ _ _ _ _ (box_keep b1).1]; rfl
    clear b1 HC
    go_wp2
    clear c0
    go_loopw [2, 3, 12] (fun x y i wr => ∃ k : Nat, k ≤ n ∧ x = .int .i64 (nodesN ns k) ∧ y = .int .i64 (bytesP ns k) ∧ i = .int .i64 k ∧ Hid (Below w.heap.size w wr)) (fun _ _ i _ => n - (intOf i).toNat)
    case atStart => exact ⟨0, Nat.zero_le _, rfl, rfl, rfl, hB⟩
    case round =>
      clear hB
      obtain ⟨k, hk, rfl, rfl, rfl, hnx⟩ := hrel
      have hsz := (uh hnx).size
      by_cases hlt : k < n
      · have hlt' : (k : Int) < (n : Int) := by omega
        obtain ⟨da, dc, la, lc, h10, -, -⟩ := (uh HX k hlt).below hb (uh hnx)
        have s1 := hide (bytesP_succ ns k (by rw [uh HL]; exact hlt))
        have s2 := hide (nodesN_succ ns k (by rw [uh HL]; exact hlt))
        have m1 := uh HM1 (k + 1) (by omega)
        have m2 := nodesN_le ns k
        rw [uh s1] at m1
        generalize bytesP ns k = x at *
        generalize nodesN ns k = y at *
        generalize nd ns k = m at *
        obtain ⟨dl, hdl⟩ : ∃ dl, m.data.length = dl := ⟨_, rfl⟩
        obtain ⟨ll, hll⟩ : ∃ ll, m.list.length = ll := ⟨_, rfl⟩
        rw [hdl, hll] at h10
        rw [hdl] at s1 m1
        have c0 := h10.c0
        have c1 := h10.c1
        have c2 := h10.c2
        have c3 := h10.c3
        have c4 := h10.c4
        have c5 := h10.c5
        have c6 := h10.c6
        have c7 := h10.c7
        have c8 := h10.c8
        have c9 := h10.c9
        clear h10 hdl hll
        have hB3 : Hid (∀ o, Below w.heap.size w (wr.alloc o)) := fun o => (uh hnx).alloc hsz o
        obtain ⟨kd, md, us, gr, lk, ti, dt, tg, ls, pa⟩ := m
        simp only at c0 c1 c2 c3 c4 c5 c6 c7 c8 c9 s2
        by_cases a1 : kd = 0
        · rw [if_pos a1] at s2
          have c0' : wr.cell? ⟨b, off + k * 10, none⟩ = some (.int .u8 0) := by rw [c0, a1]; rfl
          clear c0 a1
          go_wp2
          go_roundw
          case rel => exact ⟨k + 1, by omega, by rw [uh s2]; rfl, by rw [uh s1]; go_num, by go_num, uh hB3 _⟩
          case measure => simp [intOf]; omega
        · rw [if_neg a1] at s2
          have a2 : ¬ (kd.toNat : Int) = 0 := fun e => a1 (UInt8.toNat_inj.1 (by simpa using e))
          go_wp2
          go_roundw
          case rel => exact ⟨k + 1, by omega, by rw [uh s2]; go_num, by rw [uh s1]; go_num, by go_num, uh hB3 _⟩
          case measure => simp [intOf]; omega
      · have e : k = n := by omega
        subst e
        go_wp2
        go_ret2
        exact ⟨rfl, uh hnx⟩
def sizeP (n : Nd) : Nat := if n.kind = 1 then n.data.length else if n.kind = 2 then n.list.length else if n.kind = 3 then n.target.size else 0
set_option maxRecDepth 100000 in
set_option maxHeartbeats 1000000 in
theorem sizeOf_any (n : Nd) (da : Option Addr) (dl dc : Nat) (la : Option Addr) (ll lc : Nat) (w : World) (hd : n.data.length = dl) (hl : n.list.length = ll) :
    Calls Tryz.prog 173 #[.agg (na n (.slice da dl dc) (.slice la ll lc))] w fun e w' => e = .returned (.int .i64 (sizeP n)) ∧ w' = w.alloc (nO n (.slice da dl dc) (.slice la ll lc)) := by
  unfold sizeP
  rw [hd, hl]
  clear hd hl
  obtain ⟨kd, md, us, gr, lk, ti, dt, tg, ls, pa⟩ := n
  unfold nO na
  simp only
  by_cases a1 : kd = 1
  · subst a1
    go_enter Tryz.func173, Tryz.ntmps173
    go_wp2
    go_ret
    exact ⟨rfl, rfl⟩
  by_cases a2 : kd = 2
  · subst a2
    go_enter Tryz.func173, Tryz.ntmps173
    go_wp2
    go_ret
    exact ⟨rfl, rfl⟩
  by_cases a3 : kd = 3
  · subst a3
    go_enter Tryz.func173, Tryz.ntmps173
    go_wp2
    go_ret
    exact ⟨rfl, rfl⟩
  rw [if_neg a1, if_neg a2, if_neg a3]
  have b1 : ¬ (kd.toNat : Int) = 1 := fun e => a1 (UInt8.toNat_inj.1 (by show kd.toNat = 1; omega))
  have b2 : ¬ (kd.toNat : Int) = 2 := fun e => a2 (UInt8.toNat_inj.1 (by show kd.toNat = 2; omega))
  have b3 : ¬ (kd.toNat : Int) = 3 := fun e => a3 (UInt8.toNat_inj.1 (by show kd.toNat = 3; omega))
  go_enter Tryz.func173, Tryz.ntmps173
  go_wp2
  go_ret
  exact ⟨rfl, rfl⟩
end Go.Proofs.YtidhceebafmlkaaGreatDoor.Tr

namespace Go.Proofs.YtidhceebafmlkaaGreatDoor.Tr
open Go.RowKit Cu
abbrev zStat : Array Value := #[.int .i64 0, .int .u8 0, .int .i64 0, .int .i64 0, .int .i64 0, .int .i64 0, .int .i64 0, .int .i64 0]
abbrev vStat (i : Int) (n : Nd) : Array Value := #[.int .i64 i, .int .u8 n.kind.toNat, .int .i64 n.mode, .int .i64 n.user, .int .i64 n.group, .int .i64 n.links, .int .i64 (sizeP n), .int .i64 n.time]
def statV (now : Int) (ns : List Nd) (i : Int) : Value := if nodeP now ns i then .tuple #[.agg (vStat i (nd ns i.toNat)), .int .i64 0] else .tuple #[.agg zStat, .int .i64 1]
structure St (w : World) (P : Nat) (w' : World) : Prop where
  below : Below w.heap.size w w'
  room : w'.heap[w.heap.size + 1]? = some (.cells zStat 67)
  hP : P < w'.heap.size
  ne : w.heap.size + 1 < P
theorem St.step {w : World} {P : Nat} {w' w2 : World} (h : St w P w') (hb : Below w'.heap.size w' w2) : St w P w2 :=
  ⟨h.below.trans (hb.mono h.below.size), (hb.block _ (Nat.lt_trans h.ne h.hP)).trans h.room, Nat.lt_of_lt_of_le h.hP hb.size, h.ne⟩
theorem St.r {w : World} {P : Nat} {W : World} (h : St w P W) : W.cell? ⟨w.heap.size + 1, 0, none⟩ = some (.int .i64 0) ∧ W.cell? ⟨w.heap.size + 1, 1, none⟩ = some (.int .u8 0) ∧ W.cell? ⟨w.heap.size + 1, 2, none⟩ = some (.int .i64 0) ∧ W.cell? ⟨w.heap.size + 1, 3, none⟩ = some (.int .i64 0) ∧ W.cell? ⟨w.heap.size + 1, 4, none⟩ = some (.int .i64 0) ∧ W.cell? ⟨w.heap.size + 1, 5, none⟩ = some (.int .i64 0) ∧ W.cell? ⟨w.heap.size + 1, 6, none⟩ = some (.int .i64 0) ∧ W.cell? ⟨w.heap.size + 1, 7, none⟩ = some (.int .i64 0) ∧ W.frozen? ⟨w.heap.size + 1, 0, none⟩ = false ∧ W.frozen? ⟨w.heap.size + 1, 1, none⟩ = false ∧ W.frozen? ⟨w.heap.size + 1, 2, none⟩ = false ∧ W.frozen? ⟨w.heap.size + 1, 3, none⟩ = false ∧ W.frozen? ⟨w.heap.size + 1, 4, none⟩ = false ∧ W.frozen? ⟨w.heap.size + 1, 5, none⟩ = false ∧ W.frozen? ⟨w.heap.size + 1, 6, none⟩ = false ∧ W.frozen? ⟨w.heap.size + 1, 7, none⟩ = false := by
  have c : ∀ j, W.cell? ⟨w.heap.size + 1, j, none⟩ = zStat[j]? := fun j => cell_of_row _ _ _ _ _ _ h.room
  have f : ∀ j, W.frozen? ⟨w.heap.size + 1, j, none⟩ = false := fun j => by simp [World.frozen?, h.room]
  exact ⟨c 0, c 1, c 2, c 3, c 4, c 5, c 6, c 7, f 0, f 1, f 2, f 3, f 4, f 5, f 6, f 7⟩
theorem set_other (w' : World) (g P j : Nat) (hne : P ≠ g) (a0 a1 a2 a3 a4 a5 a6 a7 : Value) : ((((((((w'.setCell ⟨g, 0, none⟩ a0).setCell ⟨g, 1, none⟩ a1).setCell ⟨g, 2, none⟩ a2).setCell ⟨g, 3, none⟩ a3).setCell ⟨g, 4, none⟩ a4).setCell ⟨g, 5, none⟩ a5).setCell ⟨g, 6, none⟩ a6).setCell ⟨g, 7, none⟩ a7).cell? ⟨P, j, none⟩ = w'.cell? ⟨P, j, none⟩ := by
  have e : ∀ (W : World) (o : Nat) (v : Value), (W.setCell ⟨g, o, none⟩ v).cell? ⟨P, j, none⟩ = W.cell? ⟨P, j, none⟩ := fun W o v => by
    have h := heap_setCell_other W ⟨g, o, none⟩ P v hne
    simp [World.cell?, h]
  rw [e, e, e, e, e, e, e, e]
theorem set_below {B : Nat} {w w' : World} (h : Below B w w') (g : Nat) (hg : B ≤ g) (a0 a1 a2 a3 a4 a5 a6 a7 : Value) : Below B w ((((((((w'.setCell ⟨g, 0, none⟩ a0).setCell ⟨g, 1, none⟩ a1).setCell ⟨g, 2, none⟩ a2).setCell ⟨g, 3, none⟩ a3).setCell ⟨g, 4, none⟩ a4).setCell ⟨g, 5, none⟩ a5).setCell ⟨g, 6, none⟩ a6).setCell ⟨g, 7, none⟩ a7) :=
  (((((((h.setCell (p := ⟨g, 0, none⟩) hg _).setCell (p := ⟨g, 1, none⟩) hg _).setCell (p := ⟨g, 2, none⟩) hg _).setCell (p := ⟨g, 3, none⟩) hg _).setCell (p := ⟨g, 4, none⟩) hg _).setCell (p := ⟨g, 5, none⟩) hg _).setCell (p := ⟨g, 6, none⟩) hg _).setCell (p := ⟨g, 7, none⟩) hg _
set_option maxRecDepth 100000 in
set_option maxHeartbeats 1000000 in
theorem stat_any (a : Option Addr) (n cap : Nat) (ns : List Nd) (now i : Int) (w : World) (h : Ng w a n cap ns) (hs : Sm ns) :
    Calls Tryz.prog 99 #[.agg #[.slice a n cap, .int .i64 now], .int .i64 i] w fun e w' => e = .returned (statV now ns i) ∧ Below w.heap.size w w' := by
  have HC : Hid (∀ W, Below w.heap.size w W → Calls Tryz.prog 172 #[.agg #[.slice a n cap, .int .i64 now], .int .i64 i] W fun e w' => e = .returned (.bool (nodeP now ns i)) ∧ Below W.heap.size W w') := fun W hW => isNode_any a n cap ns now i W (h.below hW) hs
  have hlen := h.len
  have hQ : Hid (nodeP now ns i = true → 0 < i ∧ i < (n : Int)) := fun q => by
    unfold nodeP at q
    simp only [Bool.and_eq_true, decide_eq_true_eq] at q
    exact ⟨q.1.1.2, by rw [← hlen]; exact q.1.2⟩
  unfold statV
  clear hlen hs
  have HG := hide h
  clear h
  generalize nodeP now ns i = q at *
  have hb0 : Hid (Below w.heap.size w ((w.alloc (.cells #[.slice a n cap, .int .i64 now] 24)).alloc (.cells zStat 67))) := ((Below.refl _ _).alloc (Nat.le_refl _) _).alloc (by simp) _
  have HB1 : Hid (∀ W, Below ((w.alloc (.cells #[.slice a n cap, .int .i64 now] 24)).alloc (.cells zStat 67)).heap.size ((w.alloc (.cells #[.slice a n cap, .int .i64 now] 24)).alloc (.cells zStat 67)) W →
      W.heap[w.heap.size]? = some (.cells #[.slice a n cap, .int .i64 now] 24) ∧ W.heap[w.heap.size + 1]? = some (.cells zStat 67) ∧ Below w.heap.size w W ∧ w.heap.size + 1 < W.heap.size) := fun W hb => by
    obtain ⟨h1, h2, h3⟩ := box_keep hb
    simp only [World.size_alloc] at h1 h2 h3
    have h4 := (h2.block w.heap.size (by omega)).trans (heap_alloc_new w _)
    exact ⟨h4, h1, ((Below.refl _ w).alloc (Nat.le_refl _) _).trans (h2.mono (by omega)), h3⟩
  cases q with
  | false =>
    simp only [Bool.false_eq_true, if_false]
    go_enter Tryz.func99, Tryz.ntmps99
    go_wp2_with fail
    refine (uh HC _ (uh hb0)).mono ?_
    rintro e w1 ⟨rfl, b1⟩
    obtain ⟨-, g1, hB, hz⟩ := uh HB1 w1 b1
    have hB := hide hB
    have g0 : ∀ j, w1.cell? ⟨w.heap.size + 1, j, none⟩ = zStat[j]? := fun j => cell_of_row _ _ _ _ _ _ g1
    have d0 := g0 0
    have d1 := g0 1
    have d2 := g0 2
    have d3 := g0 3
    have d4 := g0 4
    have d5 := g0 5
    have d6 := g0 6
    have d7 := g0 7
    simp at d0 d1 d2 d3 d4 d5 d6 d7
    have fz : ∀ j, w1.frozen? ⟨w.heap.size + 1, j, none⟩ = false := fun j => by simp [World.frozen?, g1]
    have fz0 := fz 0
    have fz1 := fz 1
    have fz2 := fz 2
    have fz3 := fz 3
    have fz4 := fz 4
    have fz5 := fz 5
    have fz6 := fz 6
    have fz7 := fz 7
    have G1 := hide g1
    clear b1 HC HG HB1 g0 fz g1
    go_wp2
    refine bodyPost_ret (v := .tuple #[.agg zStat, .int .i64 1]) (by simp [results, Tryz.results99, go_sem, d0, d1, d2, d3, d4, d5, d6, d7]) rfl ⟨rfl, set_below (uh hB) _ (Nat.le_succ _) _ _ _ _ _ _ _ _⟩
  | true =>
    simp only [if_true]
    obtain ⟨a1, a2⟩ := uh hQ rfl
    obtain ⟨k, rfl⟩ : ∃ k : Nat, i = (k : Int) := ⟨i.toNat, by omega⟩
    rw [Int.toNat_natCast]
    have hkn : k < n := by omega
    rcases (uh HG).cells with h0 | ⟨b, off, rfl, hb, hc⟩
    · omega
    obtain ⟨da, dc, la, lc, h10, -, -⟩ := hc k hkn
    obtain ⟨m, hm⟩ : ∃ m, m = nd ns k := ⟨_, rfl⟩
    rw [← hm] at h10 ⊢
    obtain ⟨dl, hdl⟩ : ∃ dl, m.data.length = dl := ⟨_, rfl⟩
    obtain ⟨ll, hll⟩ : ∃ ll, m.list.length = ll := ⟨_, rfl⟩
    rw [hdl, hll] at h10
    have HZ : Hid (∀ W, Calls Tryz.prog 173 #[.agg (na m (.slice da dl dc) (.slice la ll lc))] W fun e w' => e = .returned (.int .i64 (sizeP m)) ∧ Below W.heap.size W w') := fun W => (sizeOf_any m da dl dc la ll lc W hdl hll).mono fun e w' h => ⟨h.1, by rw [h.2]; exact (Below.refl _ _).alloc (Nat.le_refl _) _⟩
    unfold vStat
    generalize sizeP m = sz at *
    have H10 := hide h10
    clear hc HG h10 hm hdl hll hQ
    obtain ⟨kd, md, us, gr, lk, ti, dt, tg, ls, pa⟩ := m
    unfold na at HZ
    simp only at HZ ⊢
    go_enter Tryz.func99, Tryz.ntmps99
    go_wp2_with fail
    refine (uh HC _ (uh hb0)).mono ?_
    rintro e w1 ⟨rfl, b1⟩
    obtain ⟨gt, g1, hB, hz⟩ := uh HB1 w1 b1
    have ct : w1.cell? ⟨w.heap.size, 0, none⟩ = some (.slice (some ⟨b, off, none⟩) n cap) := by rw [cell_of_row _ _ _ _ _ _ gt]; rfl
    have h10 := (uh H10).of fun o => hB.cell (p := ⟨b, o, none⟩) hb
    have c0 := h10.c0
    have c1 := h10.c1
    have c2 := h10.c2
    have c3 := h10.c3
    have c4 := h10.c4
    have c5 := h10.c5
    have c6 := h10.c6
    have c7 := h10.c7
    have c8 := h10.c8
    have c9 := h10.c9
    simp only at c0 c1 c2 c3 c4 c5 c6 c7 c8 c9
    clear h10 H10
    obtain ⟨P, hPe⟩ : ∃ P, P = w1.heap.size := ⟨_, rfl⟩
    obtain ⟨W, hWe⟩ : ∃ W, W = w1.alloc (.cells #[.int .u8 kd.toNat, .int .i64 md, .int .i64 us, .int .i64 gr, .int .i64 lk, .int .i64 ti, .slice da dl dc, .string tg, .slice la ll lc, .int .i64 pa] 82) := ⟨_, rfl⟩
    have hS0 : W.cell? ⟨P, 0, none⟩ = some (.int .u8 kd.toNat) ∧ W.cell? ⟨P, 1, none⟩ = some (.int .i64 md) ∧ W.cell? ⟨P, 2, none⟩ = some (.int .i64 us) ∧ W.cell? ⟨P, 3, none⟩ = some (.int .i64 gr) ∧ W.cell? ⟨P, 4, none⟩ = some (.int .i64 lk) ∧ W.cell? ⟨P, 5, none⟩ = some (.int .i64 ti) ∧ W.cell? ⟨P, 6, none⟩ = some (.slice da dl dc) ∧ W.cell? ⟨P, 7, none⟩ = some (.string tg) ∧ W.cell? ⟨P, 8, none⟩ = some (.slice la ll lc) ∧ W.cell? ⟨P, 9, none⟩ = some (.int .i64 pa) ∧ St w P W := by
      rw [hWe, hPe]
      have q : Below w1.heap.size w1 (w1.alloc (.cells #[.int .u8 kd.toNat, .int .i64 md, .int .i64 us, .int .i64 gr, .int .i64 lk, .int .i64 ti, .slice da dl dc, .string tg, .slice la ll lc, .int .i64 pa] 82)) := (Below.refl _ _).alloc (Nat.le_refl _) _
      exact ⟨by simp, by simp, by simp, by simp, by simp, by simp, by simp, by simp, by simp, by simp, ⟨hB.trans (q.mono hB.size), (q.block _ hz).trans g1, by simp, hz⟩⟩
    have G1 := hide g1
    have HBB := hide hB
    clear b1 HC HB1 gt g1 hB hb0
    go_wp2_with fail
    rw [← hPe, ← hWe]
    obtain ⟨e0, e1, e2, e3, e4, e5, e6, e7, e8, e9, eF⟩ := hS0
    have f0 : W.drew.cell? ⟨P, 0, none⟩ = some (.int .u8 kd.toNat) := e0
    have f1 : W.drew.cell? ⟨P, 1, none⟩ = some (.int .i64 md) := e1
    have f2 : W.drew.cell? ⟨P, 2, none⟩ = some (.int .i64 us) := e2
    have f3 : W.drew.cell? ⟨P, 3, none⟩ = some (.int .i64 gr) := e3
    have f4 : W.drew.cell? ⟨P, 4, none⟩ = some (.int .i64 lk) := e4
    have f5 : W.drew.cell? ⟨P, 5, none⟩ = some (.int .i64 ti) := e5
    have f6 : W.drew.cell? ⟨P, 6, none⟩ = some (.slice da dl dc) := e6
    have f7 : W.drew.cell? ⟨P, 7, none⟩ = some (.string tg) := e7
    have f8 : W.drew.cell? ⟨P, 8, none⟩ = some (.slice la ll lc) := e8
    have f9 : W.drew.cell? ⟨P, 9, none⟩ = some (.int .i64 pa) := e9
    have fF : St w P W.drew := ⟨⟨eF.1.os, eF.1.tape, eF.1.output, eF.1.size, eF.1.block⟩, eF.2, eF.3, eF.4⟩
    clear e0 e1 e2 e3 e4 e5 e6 e7 e8 e9 eF hWe hPe c0 c1 c2 c3 c4 c5 c6 c7 c8 c9 ct hz G1 HBB
    have hS1 : W.drew.cell? ⟨P, 0, none⟩ = some (.int .u8 kd.toNat) ∧ W.drew.cell? ⟨P, 1, none⟩ = some (.int .i64 md) ∧ W.drew.cell? ⟨P, 2, none⟩ = some (.int .i64 us) ∧ W.drew.cell? ⟨P, 3, none⟩ = some (.int .i64 gr) ∧ W.drew.cell? ⟨P, 4, none⟩ = some (.int .i64 lk) ∧ W.drew.cell? ⟨P, 5, none⟩ = some (.int .i64 ti) ∧ W.drew.cell? ⟨P, 6, none⟩ = some (.slice da dl dc) ∧ W.drew.cell? ⟨P, 7, none⟩ = some (.string tg) ∧ W.drew.cell? ⟨P, 8, none⟩ = some (.slice la ll lc) ∧ W.drew.cell? ⟨P, 9, none⟩ = some (.int .i64 pa) := ⟨f0, f1, f2, f3, f4, f5, f6, f7, f8, f9⟩
    have hS10 : Hid (∀ W2, Below W.drew.heap.size W.drew W2 → (W2.cell? ⟨P, 0, none⟩ = some (.int .u8 kd.toNat) ∧ W2.cell? ⟨P, 1, none⟩ = some (.int .i64 md) ∧ W2.cell? ⟨P, 2, none⟩ = some (.int .i64 us) ∧ W2.cell? ⟨P, 3, none⟩ = some (.int .i64 gr) ∧ W2.cell? ⟨P, 4, none⟩ = some (.int .i64 lk) ∧ W2.cell? ⟨P, 5, none⟩ = some (.int .i64 ti) ∧ W2.cell? ⟨P, 6, none⟩ = some (.slice da dl dc) ∧ W2.cell? ⟨P, 7, none⟩ = some (.string tg) ∧ W2.cell? ⟨P, 8, none⟩ = some (.slice la ll lc) ∧ W2.cell? ⟨P, 9, none⟩ = some (.int .i64 pa)) ∧ St w P W2) := by
      intro W2 hb
      have h12 := fF.hP
      exact ⟨⟨(hb.cell h12).trans f0, (hb.cell h12).trans f1, (hb.cell h12).trans f2, (hb.cell h12).trans f3, (hb.cell h12).trans f4, (hb.cell h12).trans f5, (hb.cell h12).trans f6, (hb.cell h12).trans f7, (hb.cell h12).trans f8, (hb.cell h12).trans f9⟩, fF.step hb⟩
    have hne' : P ≠ w.heap.size + 1 := (Nat.ne_of_lt fF.ne).symm
    have HK8 : Hid (∀ (W' : World) (a0 a1 a2 a3 a4 a5 a6 a7 : Value), (W'.cell? ⟨P, 0, none⟩ = some (.int .u8 kd.toNat) ∧ W'.cell? ⟨P, 1, none⟩ = some (.int .i64 md) ∧ W'.cell? ⟨P, 2, none⟩ = some (.int .i64 us) ∧ W'.cell? ⟨P, 3, none⟩ = some (.int .i64 gr) ∧ W'.cell? ⟨P, 4, none⟩ = some (.int .i64 lk) ∧ W'.cell? ⟨P, 5, none⟩ = some (.int .i64 ti) ∧ W'.cell? ⟨P, 6, none⟩ = some (.slice da dl dc) ∧ W'.cell? ⟨P, 7, none⟩ = some (.string tg) ∧ W'.cell? ⟨P, 8, none⟩ = some (.slice la ll lc) ∧ W'.cell? ⟨P, 9, none⟩ = some (.int .i64 pa)) → (((((((((W'.setCell ⟨w.heap.size + 1, 0, none⟩ a0).setCell ⟨w.heap.size + 1, 1, none⟩ a1).setCell ⟨w.heap.size + 1, 2, none⟩ a2).setCell ⟨w.heap.size + 1, 3, none⟩ a3).setCell ⟨w.heap.size + 1, 4, none⟩ a4).setCell ⟨w.heap.size + 1, 5, none⟩ a5).setCell ⟨w.heap.size + 1, 6, none⟩ a6).setCell ⟨w.heap.size + 1, 7, none⟩ a7).cell? ⟨P, 0, none⟩ = some (.int .u8 kd.toNat) ∧ ((((((((W'.setCell ⟨w.heap.size + 1, 0, none⟩ a0).setCell ⟨w.heap.size + 1, 1, none⟩ a1).setCell ⟨w.heap.size + 1, 2, none⟩ a2).setCell ⟨w.heap.size + 1, 3, none⟩ a3).setCell ⟨w.heap.size + 1, 4, none⟩ a4).setCell ⟨w.heap.size + 1, 5, none⟩ a5).setCell ⟨w.heap.size + 1, 6, none⟩ a6).setCell ⟨w.heap.size + 1, 7, none⟩ a7).cell? ⟨P, 1, none⟩ = some (.int .i64 md) ∧ ((((((((W'.setCell ⟨w.heap.size + 1, 0, none⟩ a0).setCell ⟨w.heap.size + 1, 1, none⟩ a1).setCell ⟨w.heap.size + 1, 2, none⟩ a2).setCell ⟨w.heap.size + 1, 3, none⟩ a3).setCell ⟨w.heap.size + 1, 4, none⟩ a4).setCell ⟨w.heap.size + 1, 5, none⟩ a5).setCell ⟨w.heap.size + 1, 6, none⟩ a6).setCell ⟨w.heap.size + 1, 7, none⟩ a7).cell? ⟨P, 2, none⟩ = some (.int .i64 us) ∧ ((((((((W'.setCell ⟨w.heap.size + 1, 0, none⟩ a0).setCell ⟨w.heap.size + 1, 1, none⟩ a1).setCell ⟨w.heap.size + 1, 2, none⟩ a2).setCell ⟨w.heap.size + 1, 3, none⟩ a3).setCell ⟨w.heap.size + 1, 4, none⟩ a4).setCell ⟨w.heap.size + 1, 5, none⟩ a5).setCell ⟨w.heap.size + 1, 6, none⟩ a6).setCell ⟨w.heap.size + 1, 7, none⟩ a7).cell? ⟨P, 3, none⟩ = some (.int .i64 gr) ∧ ((((((((W'.setCell ⟨w.heap.size + 1, 0, none⟩ a0).setCell ⟨w.heap.size + 1, 1, none⟩ a1).setCell ⟨w.heap.size + 1, 2, none⟩ a2).setCell ⟨w.heap.size + 1, 3, none⟩ a3).setCell ⟨w.heap.size + 1, 4, none⟩ a4).setCell ⟨w.heap.size + 1, 5, none⟩ a5).setCell ⟨w.heap.size + 1, 6, none⟩ a6).setCell ⟨w.heap.size + 1, 7, none⟩ a7).cell? ⟨P, 4, none⟩ = some (.int .i64 lk) ∧ ((((((((W'.setCell ⟨w.heap.size + 1, 0, none⟩ a0).setCell ⟨w.heap.size + 1, 1, none⟩ a1).setCell ⟨w.heap.size + 1, 2, none⟩ a2).setCell ⟨w.heap.size + 1, 3, none⟩ a3).setCell ⟨w.heap.size + 1, 4, none⟩ a4).setCell ⟨w.heap.size + 1, 5, none⟩ a5).setCell ⟨w.heap.size + 1, 6, none⟩ a6).setCell ⟨w.heap.size + 1, 7, none⟩ a7).cell? ⟨P, 5, none⟩ = some (.int .i64 ti) ∧ ((((((((W'.setCell ⟨w.heap.size + 1, 0, none⟩ a0).setCell ⟨w.heap.size + 1, 1, none⟩ a1).setCell ⟨w.heap.size + 1, 2, none⟩ a2).setCell ⟨w.heap.size + 1, 3, none⟩ a3).setCell ⟨w.heap.size + 1, 4, none⟩ a4).setCell ⟨w.heap.size + 1, 5, none⟩ a5).setCell ⟨w.heap.size + 1, 6, none⟩ a6).setCell ⟨w.heap.size + 1, 7, none⟩ a7).cell? ⟨P, 6, none⟩ = some (.slice da dl dc) ∧ ((((((((W'.setCell ⟨w.heap.size + 1, 0, none⟩ a0).setCell ⟨w.heap.size + 1, 1, none⟩ a1).setCell ⟨w.heap.size + 1, 2, none⟩ a2).setCell ⟨w.heap.size + 1, 3, none⟩ a3).setCell ⟨w.heap.size + 1, 4, none⟩ a4).setCell ⟨w.heap.size + 1, 5, none⟩ a5).setCell ⟨w.heap.size + 1, 6, none⟩ a6).setCell ⟨w.heap.size + 1, 7, none⟩ a7).cell? ⟨P, 7, none⟩ = some (.string tg) ∧ ((((((((W'.setCell ⟨w.heap.size + 1, 0, none⟩ a0).setCell ⟨w.heap.size + 1, 1, none⟩ a1).setCell ⟨w.heap.size + 1, 2, none⟩ a2).setCell ⟨w.heap.size + 1, 3, none⟩ a3).setCell ⟨w.heap.size + 1, 4, none⟩ a4).setCell ⟨w.heap.size + 1, 5, none⟩ a5).setCell ⟨w.heap.size + 1, 6, none⟩ a6).setCell ⟨w.heap.size + 1, 7, none⟩ a7).cell? ⟨P, 8, none⟩ = some (.slice la ll lc) ∧ ((((((((W'.setCell ⟨w.heap.size + 1, 0, none⟩ a0).setCell ⟨w.heap.size + 1, 1, none⟩ a1).setCell ⟨w.heap.size + 1, 2, none⟩ a2).setCell ⟨w.heap.size + 1, 3, none⟩ a3).setCell ⟨w.heap.size + 1, 4, none⟩ a4).setCell ⟨w.heap.size + 1, 5, none⟩ a5).setCell ⟨w.heap.size + 1, 6, none⟩ a6).setCell ⟨w.heap.size + 1, 7, none⟩ a7).cell? ⟨P, 9, none⟩ = some (.int .i64 pa))) := by
      intro W' a0 a1 a2 a3 a4 a5 a6 a7 h
      simp only [set_other _ _ _ _ hne']
      exact h
    clear fF
    go_region_held3 (fun w' => w'.cell? ⟨P, 0, none⟩ = some (.int .u8 kd.toNat) ∧ w'.cell? ⟨P, 1, none⟩ = some (.int .i64 md) ∧ w'.cell? ⟨P, 2, none⟩ = some (.int .i64 us) ∧ w'.cell? ⟨P, 3, none⟩ = some (.int .i64 gr) ∧ w'.cell? ⟨P, 4, none⟩ = some (.int .i64 lk) ∧ w'.cell? ⟨P, 5, none⟩ = some (.int .i64 ti) ∧ w'.cell? ⟨P, 6, none⟩ = some (.slice da dl dc) ∧ w'.cell? ⟨P, 7, none⟩ = some (.string tg) ∧ w'.cell? ⟨P, 8, none⟩ = some (.slice la ll lc) ∧ w'.cell? ⟨P, 9, none⟩ = some (.int .i64 pa)) (first | with_reducible assumption | with_reducible exact uh HK8 _ _ _ _ _ _ _ _ _ hS3)
      (first | ((with_reducible refine (uh HZ _).mono ?_); rintro e w3 ⟨rfl, b3⟩; have hS4 := uh hS10 _ b3; have hS3 := hS4.1; have HF3 := hide hS4.2; obtain ⟨r0, r1, r2, r3, r4, r5, r6, r7, z0, z1, z2, z3, z4, z5, z6, z7⟩ := hS4.2.r; clear b3 hS4) | fail)
    clear HZ HK8 hS10 hS1 f0 f1 f2 f3 f4 f5 f6 f7 f8 f9 hS3
    go_wp2
    refine bodyPost_ret (v := .tuple #[.agg #[.int .i64 k, .int .u8 kd.toNat, .int .i64 md, .int .i64 us, .int .i64 gr, .int .i64 lk, .int .i64 sz, .int .i64 ti], .int .i64 0]) (by simp [results, Tryz.results99, go_sem, r0, r1, r2, r3, r4, r5, r6, r7]) rfl ⟨rfl, set_below (uh HF3).below _ (Nat.le_succ _) _ _ _ _ _ _ _ _⟩
end Go.Proofs.YtidhceebafmlkaaGreatDoor.Tr
