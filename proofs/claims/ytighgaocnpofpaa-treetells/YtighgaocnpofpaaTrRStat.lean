/- What the document's Of, Stat, dir and Depth answer. -/
import Derived.Test.YtighgaocnpofpaaTrRck
import Derived.Test.YtighgaocnpofpaaTrStatW
import Derived.Test.YtighgaocnpofpaaTrPathsP
namespace Go.Proofs.Ytighgaocnpofpaa.Tr
open Go.RowKit Go.Proofs.Ytighgaocnpofpaa.Cu

def sumSz (n : Nd) : Nat := n.data.length + n.target.size + n.list.length
abbrev oStat (i : Int) (n : Nd) : Array Value := #[.int .i64 i, .int .u8 n.kind.toNat, .int .i64 n.mode, .int .i64 n.user, .int .i64 n.group, .int .i64 n.links, .int .i64 (sumSz n), .int .i64 n.time]
set_option maxRecDepth 100000 in
set_option maxHeartbeats 1000000 in
theorem rof_any (a : Option Addr) (n cap : Nat) (ns : List Nd) (now : Int) (x : Nat) (w : World) (h : Ng w a n cap ns) (hx : x < n) (hz : sumSz (nd ns x) ≤ 1000000000000000) :
    Calls Try.prog 41 #[.agg #[.slice a n cap, .int .i64 now], .int .i64 (x : Int)] w fun e w' => e = .returned (.agg (oStat (x : Int) (nd ns x))) ∧ Below w.heap.size w w' := by
  rcases h.cells with h0 | ⟨b, off, rfl, hb, hc⟩
  · omega
  obtain ⟨da, dc, la, lc, h10, -, -⟩ := hc x hx
  have HB1 : Hid (∀ o1 o2 o3 o4, Below w.heap.size w ((((w.alloc o1).alloc o2).alloc o3).alloc o4)) := fun o1 o2 o3 o4 => ((((Below.refl _ w).alloc (Nat.le_refl _) o1).alloc (by simp) o2).alloc (by simp; omega) o3).alloc (by simp; omega) o4
  obtain ⟨m, hm⟩ : ∃ m, m = nd ns x := ⟨_, rfl⟩
  rw [← hm] at h10 hz ⊢
  have hS : sumSz m = m.data.length + m.target.size + m.list.length := rfl
  unfold oStat
  rw [hS]
  rw [hS] at hz
  obtain ⟨dl, hdl⟩ : ∃ dl, m.data.length = dl := ⟨_, rfl⟩
  obtain ⟨ll, hll⟩ : ∃ ll, m.list.length = ll := ⟨_, rfl⟩
  rw [hdl, hll] at h10 hz ⊢
  have c0 := h10.c0
  have c1 := h10.c1
  have c2 := h10.c2
  have c3 := h10.c3
  have c4 := h10.c4
  have c5 := h10.c5
  have c6 := h10.c6
  have c7 := h10.c7
  have c8 := h10.c8
  have c9 := h10.c9
  clear h hc h10 hm hdl hll hS
  obtain ⟨kd, md, us, gr, lk, ti, dt, tgt, ls, pa⟩ := m
  simp only at c0 c1 c2 c3 c4 c5 c6 c7 c8 c9 hz ⊢
  go_enter Try.func41, Try.ntmps41
  go_wp2
  refine bodyPost_ret (v := .agg #[.int .i64 x, .int .u8 kd.toNat, .int .i64 md, .int .i64 us, .int .i64 gr, .int .i64 lk, .int .i64 ((dl : Int) + (tgt.size : Int) + (ll : Int)), .int .i64 ti]) (by simp [results, Try.results41, go_sem]) rfl ⟨by rw [show (((dl + tgt.size + ll : Nat) : Nat) : Int) = (dl : Int) + (tgt.size : Int) + (ll : Int) by omega], unhide HB1 _ _ _ _⟩
theorem sumSz_is {n : Nd} (h : kindP n = true) : sumSz n = sizeP n := by
  unfold kindP at h
  unfold sumSz sizeP
  by_cases h0 : n.kind = 0
  · rw [if_pos h0] at h
    simp only [freeP, noListP, emptyB, Bool.and_eq_true, decide_eq_true_eq] at h
    rw [if_neg (by rw [h0]; decide), if_neg (by rw [h0]; decide), if_neg (by rw [h0]; decide)]
    omega
  rw [if_neg h0] at h
  by_cases h1 : n.kind = 1
  · rw [if_pos h1] at h ⊢
    simp only [fileP, noListP, emptyB, Bool.and_eq_true, decide_eq_true_eq] at h
    omega
  rw [if_neg h1] at h ⊢
  by_cases h2 : n.kind = 2
  · rw [if_pos h2] at h ⊢
    simp only [dirP, emptyB, Bool.and_eq_true, decide_eq_true_eq] at h
    omega
  rw [if_neg h2] at h ⊢
  by_cases h3 : n.kind = 3
  · rw [if_pos h3] at h ⊢
    simp only [linkP, noListP, Bool.and_eq_true, decide_eq_true_eq] at h
    omega
  · rw [if_neg h3] at h; cases h
theorem statV_is {now : Int} {ns : List Nd} {x : Nat} (hc : checkP now ns = true) (hx : x < ns.length) : oStat (x : Int) (nd ns x) = vStat (x : Int) (nd ns x) := by
  unfold oStat vStat
  rw [sumSz_is ((checkP_parts hc).2.2.2.2.2.1 x hx)]
theorem two_newp (w : World) (o1 o2 : Obj) : ((w.alloc o1).alloc o2).heap[w.heap.size]? = some o1 ∧ ((w.alloc o1).alloc o2).heap[w.heap.size + 1]? = some o2 := by
  have k1 := heap_alloc_new w o1
  have k2 := heap_alloc_new (w.alloc o1) o2
  rw [World.size_alloc] at k2
  exact ⟨(Below.heap_alloc _ _ _ (by simp)).trans k1, k2⟩
theorem room8 {W : World} {N : Nat} {t : TypeId} {a0 a1 a2 a3 a4 a5 a6 a7 : Value} (h : W.heap[N]? = some (.cells #[a0, a1, a2, a3, a4, a5, a6, a7] t)) : W.cell? ⟨N, 0, none⟩ = some a0 ∧ W.cell? ⟨N, 1, none⟩ = some a1 ∧ W.cell? ⟨N, 2, none⟩ = some a2 ∧ W.cell? ⟨N, 3, none⟩ = some a3 ∧ W.cell? ⟨N, 4, none⟩ = some a4 ∧ W.cell? ⟨N, 5, none⟩ = some a5 ∧ W.cell? ⟨N, 6, none⟩ = some a6 ∧ W.cell? ⟨N, 7, none⟩ = some a7 ∧ W.frozen? ⟨N, 0, none⟩ = false ∧ W.frozen? ⟨N, 1, none⟩ = false ∧ W.frozen? ⟨N, 2, none⟩ = false ∧ W.frozen? ⟨N, 3, none⟩ = false ∧ W.frozen? ⟨N, 4, none⟩ = false ∧ W.frozen? ⟨N, 5, none⟩ = false ∧ W.frozen? ⟨N, 6, none⟩ = false ∧ W.frozen? ⟨N, 7, none⟩ = false := by
  have c : ∀ j, W.cell? ⟨N, j, none⟩ = (#[a0, a1, a2, a3, a4, a5, a6, a7] : Array Value)[j]? := fun j => cell_of_row _ _ _ _ _ _ h
  have f : ∀ j, W.frozen? ⟨N, j, none⟩ = false := fun j => by simp [World.frozen?, h]
  exact ⟨c 0, c 1, c 2, c 3, c 4, c 5, c 6, c 7, f 0, f 1, f 2, f 3, f 4, f 5, f 6, f 7⟩
set_option maxRecDepth 100000 in
set_option maxHeartbeats 2000000 in
theorem rstat_any (a : Option Addr) (n cap : Nat) (ns : List Nd) (now i : Int) (w : World) (h : Ng w a n cap ns) (hs : Sm ns) (hr : ∀ i, i < n → Rb (nd ns i)) :
    Calls Try.prog 13 #[.agg #[.slice a n cap, .int .i64 now], .int .i64 i] w fun e w' => e = .returned (statV now ns i) ∧ Below w.heap.size w w' := by
  have HC : Hid (∀ W, Below w.heap.size w W → Calls Try.prog 10 #[.agg #[.slice a n cap, .int .i64 now]] W fun e w' => e = .returned (.bool (checkP now ns)) ∧ Below W.heap.size W w') := fun W hW => rcheckAny now (h.below hW) hs hr
  have HO : Hid (∀ (x : Nat), x < n → checkP now ns = true → ∀ W, Below w.heap.size w W → Calls Try.prog 41 #[.agg #[.slice a n cap, .int .i64 now], .int .i64 (x : Int)] W fun e w' => e = .returned (.agg (vStat (x : Int) (nd ns x))) ∧ Below W.heap.size W w') := fun x hx hc W hW => by
    rw [← statV_is hc (by rw [h.len]; exact hx)]
    exact rof_any a n cap ns now x W (h.below hW) hx (by have h1 := (hr x hx).tg; have h2 := (hr x hx).da; have h3 := (hr x hx).li; unfold sumSz; omega)
  have HA := hide h
  have HLn := hide h.len
  have HB1 : Hid (Below w.heap.size w ((w.alloc (.cells #[.slice a n cap, .int .i64 now] 24)).alloc (.cells zStat 31))) := ((Below.refl _ w).alloc (Nat.le_refl _) _).alloc (by simp) _
  have HV : Hid (statV now ns i = if nodeP now ns i then .tuple #[.agg (vStat i (nd ns i.toNat)), .int .i64 0] else .tuple #[.agg zStat, .int .i64 1]) := rfl
  clear h hr
  obtain ⟨V, hVe⟩ : ∃ V, V = statV now ns i := ⟨_, rfl⟩
  rw [← hVe] at HV ⊢
  have HNP : Hid (nodeP now ns i = (checkP now ns && decide (0 < i) && decide (i < (n : Int)) && decide ((nd ns i.toNat).kind ≠ 0))) := by rw [← unhide HLn]; exact rfl
  have G0 := hide (two_newp w (.cells #[.slice a n cap, .int .i64 now] 24) (.cells zStat 31))
  clear hVe
  go_enter Try.func13, Try.ntmps13
  go_wp2_with fail
  refine (unhide HC _ (unhide HB1)).mono ?_
  rintro e w1 ⟨rfl, hb1⟩
  have HB2 := hide ((unhide HB1).trans (hb1.mono (unhide HB1).size))
  have G1 := hide ((hb1.block _ (by simp; omega)).trans (unhide G0).1)
  have G2 := hide ((hb1.block _ (by simp)).trans (unhide G0).2)
  clear hb1 HC
  have t0 : w1.cell? ⟨w.heap.size, 0, none⟩ = some (.slice a n cap) := by rw [cell_of_row _ _ _ _ _ _ (unhide G1)]; rfl
  have t1 : w1.cell? ⟨w.heap.size, 1, none⟩ = some (.int .i64 now) := by rw [cell_of_row _ _ _ _ _ _ (unhide G1)]; rfl
  obtain ⟨r0, r1, r2, r3, r4, r5, r6, r7, f0, f1, f2, f3, f4, f5, f6, f7⟩ := room8 (unhide G2)
  cases hK : checkP now ns with
  | false =>
    have hnp : nodeP now ns i = false := by rw [unhide HNP, hK]; rfl
    clear HO
    obtain rfl : V = .tuple #[.agg zStat, .int .i64 1] := by rw [unhide HV, hnp]; rfl
    clear HV hnp
    go_wp2
    refine bodyPost_ret (v := .tuple #[.agg zStat, .int .i64 1]) (by simp [results, Try.results13, go_sem, r0, r1, r2, r3, r4, r5, r6, r7]) rfl ⟨rfl, set_below (unhide HB2) _ (Nat.le_succ _) _ _ _ _ _ _ _ _⟩
  | true =>
  have HO2 := hide (fun x hx => unhide HO x hx hK)
  rw [hK, Bool.true_and] at HNP
  clear HO hK
  by_cases a1 : 0 < i
  case neg =>
    have hnp : nodeP now ns i = false := by rw [unhide HNP, decide_eq_false a1]; rfl
    obtain rfl : V = .tuple #[.agg zStat, .int .i64 1] := by rw [unhide HV, hnp]; rfl
    clear HV hnp
    go_wp2
    refine bodyPost_ret (v := .tuple #[.agg zStat, .int .i64 1]) (by simp [results, Try.results13, go_sem, r0, r1, r2, r3, r4, r5, r6, r7]) rfl ⟨rfl, set_below (unhide HB2) _ (Nat.le_succ _) _ _ _ _ _ _ _ _⟩
  by_cases a2 : i < (n : Int)
  case neg =>
    have hnp : nodeP now ns i = false := by rw [unhide HNP, decide_eq_false a2]; simp
    obtain rfl : V = .tuple #[.agg zStat, .int .i64 1] := by rw [unhide HV, hnp]; rfl
    clear HV hnp
    go_wp2
    refine bodyPost_ret (v := .tuple #[.agg zStat, .int .i64 1]) (by simp [results, Try.results13, go_sem, r0, r1, r2, r3, r4, r5, r6, r7]) rfl ⟨rfl, set_below (unhide HB2) _ (Nat.le_succ _) _ _ _ _ _ _ _ _⟩
  obtain ⟨x, rfl⟩ : ∃ x : Nat, i = (x : Int) := ⟨i.toNat, by omega⟩
  have hxn : x < n := by omega
  rw [Int.toNat_natCast] at HNP HV
  rcases (unhide HA).cells with h0 | ⟨b, off, rfl, hb, hc⟩
  · omega
  obtain ⟨da, dc, la, lc, h10, -, -⟩ := (hc x hxn).below hb (unhide HB2)
  have hbw : b < w1.heap.size := Nat.lt_of_lt_of_le hb (unhide HB2).size
  have c0 := h10.c0
  have HO3 := hide (unhide HO2 x hxn)
  obtain ⟨m, hm⟩ : ∃ m, m = nd ns x := ⟨_, rfl⟩
  rw [← hm] at HNP HV c0 HO3
  clear h10 hc hm HO2
  by_cases a3 : m.kind = 0
  · have hnp : nodeP now ns (x : Int) = false := by rw [unhide HNP]; simp [a3]
    rw [a3] at c0
    clear HO3 a3
    obtain rfl : V = .tuple #[.agg zStat, .int .i64 1] := by rw [unhide HV, hnp]; rfl
    clear HV hnp
    go_wp2
    refine bodyPost_ret (v := .tuple #[.agg zStat, .int .i64 1]) (by simp [results, Try.results13, go_sem, r0, r1, r2, r3, r4, r5, r6, r7]) rfl ⟨rfl, set_below (unhide HB2) _ (Nat.le_succ _) _ _ _ _ _ _ _ _⟩
  have hnp : nodeP now ns (x : Int) = true := by rw [unhide HNP]; simp only [a1, a2, a3, decide_true, ne_eq, not_false_eq_true, Bool.and_self]
  obtain rfl : V = .tuple #[.agg (vStat (x : Int) m), .int .i64 0] := by rw [unhide HV, hnp]; rfl
  have a3' : ((m.kind.toNat : Int) == 0) = false := by have := kd_no a3; simpa using this
  unfold vStat at HO3
  clear HV hnp HNP a3
  obtain ⟨kd, md, us, gr, lk, ti, dt, tgt, ls, pa⟩ := m
  simp only at c0 a3' HO3
  obtain ⟨sz, hsz⟩ : ∃ sz : Int, Hid (sz = ((sizeP ⟨kd, md, us, gr, lk, ti, dt, tgt, ls, pa⟩ : Nat) : Int)) := ⟨_, rfl⟩
  rw [← unhide hsz] at HO3
  go_wp2_with fail
  refine (unhide HO3 _ (unhide HB2)).mono ?_
  rintro e w2 ⟨rfl, hb2⟩
  have HB3 := hide ((unhide HB2).trans (hb2.mono (unhide HB2).size))
  have G3 := hide ((hb2.block _ (Array.getElem?_eq_some_iff.1 (unhide G2)).1).trans (unhide G2))
  clear hb2 HO3 r0 r1 r2 r3 r4 r5 r6 r7 f0 f1 f2 f3 f4 f5 f6 f7 t0 t1 c0
  obtain ⟨r0, r1, r2, r3, r4, r5, r6, r7, f0, f1, f2, f3, f4, f5, f6, f7⟩ := room8 (unhide G3)
  go_wp2
  refine bodyPost_ret (v := .tuple #[.agg #[.int .i64 x, .int .u8 kd.toNat, .int .i64 md, .int .i64 us, .int .i64 gr, .int .i64 lk, .int .i64 sz, .int .i64 ti], .int .i64 0]) (by simp [results, Try.results13, go_sem, r0, r1, r2, r3, r4, r5, r6, r7]) rfl ⟨by rw [unhide hsz], set_below (unhide HB3) _ (Nat.le_succ _) _ _ _ _ _ _ _ _⟩
end Go.Proofs.Ytighgaocnpofpaa.Tr
