/- How great a tree is that came in. -/
import Derived.Test.YtbofidpoajdcmabCdGetT
namespace Go.Proofs.Ytbofidpoajdcmab.Cd
open Go.RowKit Go.Proofs.Ytbofidpoajdcmab.Cu Go.Proofs.Ytbofidpoajdcmab.Tr

def sumTo9 (n : Nat) (g : Nat → Nat) : Nat := ((List.range n).map g).sum
theorem sumTo9_succ (n : Nat) (g : Nat → Nat) : sumTo9 (n + 1) g = sumTo9 n g + g n := by simp [sumTo9, List.range_succ]
/-- what came in is within reach -/
structure Rb9 (n : Nd) : Prop where
  tg : n.target.size ≤ 281474976710656
  da : n.data.length ≤ 281474976710656
  li : n.list.length ≤ 281474976710656
  nm : ∀ i, i < n.list.length → (en n.list i).name.size ≤ 281474976710656
def entTo9 (es : List En) (k : Nat) : Nat := es.length + sumTo9 k fun i => (en es i).name.size
def nodeSz9 (n : Nd) : Nat := 1 + n.target.size + n.data.length + entTo9 n.list n.list.length
def nodesTo9 (ns : List Nd) (k : Nat) : Nat := ns.length + sumTo9 k fun i => nodeSz9 (nd ns i)
set_option maxRecDepth 100000 in
set_option maxHeartbeats 1000000 in
theorem entriesSize_any9 (a : Option Addr) (n cap : Nat) (es : List En) (w : World) (h : Eg w a n cap es) (hn : n ≤ 281474976710656) (hnm : ∀ i, i < n → (en es i).name.size ≤ 281474976710656) :
    Calls Try.prog 37 #[.slice a n cap] w fun e w' => (∃ r : Nat, e = .returned (.int .i64 r) ∧ r ≤ 844424930131968 ∧ (r ≤ 1048576 → r = entTo9 es es.length)) ∧ Below w.heap.size w w' := by
  rcases h.cells with rfl | ⟨b, off, rfl, hb, hc⟩
  · obtain rfl : es = [] := List.eq_nil_of_length_eq_zero h.len
    go_enter Try.func37, Try.ntmps37
    go_wp2
    refine wp_loop_rounds 1 ?_
    rw [rounds_succ]
    go_wp2
    go_ret
    exact ⟨⟨0, rfl, by omega, fun _ => rfl⟩, Below.refl _ _⟩
  have hlen := h.len
  have HC := hide hc
  have HN := hide hnm
  have HL := hide hlen
  clear hc h hnm hlen
  go_enter Try.func37, Try.ntmps37
  go_wp2
  go_loopw [3, 4] (fun x i wr => ∃ k : Nat, k ≤ n ∧ x = .int .i64 (entTo9 es k) ∧ entTo9 es k ≤ 844424930131968 ∧ i = .int .i64 k ∧ Hid (wr = w)) (fun _ i _ => n - (intOf i).toNat)
  case atStart => exact ⟨0, Nat.zero_le _, by simp [entTo9, sumTo9, unhide HL], by simp [entTo9, sumTo9, unhide HL]; omega, rfl, rfl⟩
  case round =>
    obtain ⟨k, hk, rfl, hx3, rfl, hw⟩ := hrel
    have hww := unhide hw
    subst hww
    clear hw
    have hst := hide (sumTo9_succ k fun i => (en es i).name.size)
    by_cases hlt : k < n
    · have hlt' : (k : Int) < (n : Int) := by omega
      by_cases hm : entTo9 es k ≤ 1048576
      · have hs1 : Hid (entTo9 es (k + 1) = entTo9 es k + (en es k).name.size) := by unfold entTo9; rw [unhide hst]; exact (Nat.add_assoc _ _ _).symm
        have hx := unhide HN k hlt
        have e0 := (unhide HC k hlt).c0
        generalize entTo9 es k = x at *
        generalize (en es k).name = nm at *
        have hm' : (x : Int) ≤ 1048576 := by omega
        go_wp2
        go_roundw
        case rel => exact ⟨k + 1, by omega, by rw [unhide hs1]; go_num, by rw [unhide hs1]; omega, by go_num, trivial⟩
        case measure => simp [intOf]; omega
      · have hm' : (1048576 : Int) < (entTo9 es k : Int) := by omega
        generalize entTo9 es k = x at *
        go_wp2
        go_ret
        exact ⟨⟨x, rfl, hx3, fun h => absurd h hm⟩, Below.refl _ _⟩
    · have e : k = n := by omega
      subst e
      go_wp2
      go_ret
      exact ⟨⟨entTo9 es k, rfl, hx3, fun _ => by rw [unhide HL]⟩, Below.refl _ _⟩
set_option maxRecDepth 100000 in
set_option maxHeartbeats 1000000 in
theorem nodeSize_any9 (n : Nd) (da : Option Addr) (dl dc : Nat) (la : Option Addr) (ll lc : Nat) (w : World) (hd : n.data.length = dl) (hl : n.list.length = ll) (hg : Eg w la ll lc n.list) (hr : Rb9 n) :
    Calls Try.prog 22 #[.agg (na n (.slice da dl dc) (.slice la ll lc))] w fun e w' => (∃ r : Nat, e = .returned (.int .i64 r) ∧ r ≤ 1688849860263936 ∧ (r ≤ 1048576 → r = nodeSz9 n)) ∧ Below w.heap.size w w' := by
  have HE : Hid (∀ W, Below w.heap.size w W → Calls Try.prog 37 #[.slice la ll lc] W fun e w' => (∃ r : Nat, e = .returned (.int .i64 r) ∧ r ≤ 844424930131968 ∧ (r ≤ 1048576 → r = entTo9 n.list n.list.length)) ∧ Below W.heap.size W w') := fun W hW => entriesSize_any9 la ll lc n.list W (hg.below hW) (by rw [← hl]; exact hr.li) (fun i hi => hr.nm i (by rw [hl]; exact hi))
  have htg := hr.tg
  have hda := hr.da
  rw [hd] at hda
  have hS : Hid (nodeSz9 n = 1 + n.target.size + dl + entTo9 n.list n.list.length) := by unfold nodeSz9; rw [hd]; exact rfl
  generalize entTo9 n.list n.list.length = es at *
  have HZ : Hid (∀ z : Nat, z = nodeSz9 n → z = nodeSz9 n) := fun _ h => h
  generalize nodeSz9 n = sz at *
  have hB0 : Hid (∀ o, Below w.heap.size w (w.alloc o)) := fun o => (Below.refl _ _).alloc (Nat.le_refl _) o
  clear hr hg hd hl HZ
  obtain ⟨kd, md, us, gr, lk, ti, dt, tg, ls, pa⟩ := n
  unfold na
  simp only at htg hS ⊢
  generalize hts : tg.size = ts at *
  have HTS := hide hts
  by_cases a1 : 1 + (ts : Int) ≤ 1048576
  case neg =>
    go_enter Try.func22, Try.ntmps22
    go_wp2
    go_ret
    exact ⟨⟨1 + ts, by go_num, by omega, fun h => by omega⟩, unhide hB0 _⟩
  by_cases a2 : 1 + (ts : Int) + (dl : Int) ≤ 1048576
  case neg =>
    go_enter Try.func22, Try.ntmps22
    go_wp2_with (go_at_call 36; go_in)
    go_ret
    exact ⟨⟨1 + ts + dl, by go_num, by omega, fun h => by omega⟩, unhide hB0 _⟩
  go_enter Try.func22, Try.ntmps22
  go_wp2_with (go_at_call 36; go_in)
  refine (unhide HE _ (unhide hB0 _)).mono ?_
  rintro e w1 ⟨⟨r, rfl, hr1, hr2⟩, b1⟩
  have hB1 := hide ((unhide hB0 _).trans (b1.mono (by simp)))
  have HR2 := hide hr2
  clear b1 HE hr2
  go_wp2
  go_ret
  exact ⟨⟨1 + ts + dl + r, by go_num, by omega, fun h => by have := unhide HR2 (by omega); have := unhide hS; omega⟩, unhide hB1⟩
set_option maxRecDepth 100000 in
set_option maxHeartbeats 1000000 in
theorem nodesSize_any9 (a : Option Addr) (n cap : Nat) (ns : List Nd) (w : World) (h : Ng w a n cap ns) (hn : n ≤ 281474976710656) (hr : ∀ i, i < n → Rb9 (nd ns i)) :
    Calls Try.prog 11 #[.slice a n cap] w fun e w' => (∃ r : Nat, e = .returned (.int .i64 r) ∧ r ≤ 4503599627370496 ∧ (r ≤ 1048576 → r = nodesTo9 ns ns.length)) ∧ Below w.heap.size w w' := by
  rcases h.cells with rfl | ⟨b, off, rfl, hb, hc⟩
  · obtain rfl : ns = [] := List.eq_nil_of_length_eq_zero h.len
    go_enter Try.func11, Try.ntmps11
    go_wp2
    refine wp_loop_rounds 1 ?_
    rw [rounds_succ]
    go_wp2
    go_ret
    exact ⟨⟨0, rfl, by omega, fun _ => rfl⟩, Below.refl _ _⟩
  have hlen := h.len
  have HC := hide hc
  have HN := hide hr
  have HL := hide hlen
  clear hc h hr hlen
  go_enter Try.func11, Try.ntmps11
  go_wp2
  go_loopw [3, 4] (fun x i wr => ∃ k y : Nat, k ≤ n ∧ x = .int .i64 y ∧ y ≤ 4503599627370496 ∧ Hid (y ≤ 1048576 → y = nodesTo9 ns k) ∧ i = .int .i64 k ∧ Hid (Below w.heap.size w wr)) (fun _ i _ => n - (intOf i).toNat)
  case atStart => exact ⟨0, n, Nat.zero_le _, rfl, by omega, fun _ => by simp [nodesTo9, sumTo9, unhide HL], rfl, Below.refl _ _⟩
  case round =>
    obtain ⟨k, y, hk, rfl, hy, hyk, rfl, hnx⟩ := hrel
    by_cases hlt : k < n
    · have hlt' : (k : Int) < (n : Int) := by omega
      by_cases hm : y ≤ 1048576
      · have hm' : (y : Int) ≤ 1048576 := by omega
        have hst : Hid (nodesTo9 ns (k + 1) = nodesTo9 ns k + nodeSz9 (nd ns k)) := by unfold nodesTo9; rw [sumTo9_succ]; exact (Nat.add_assoc _ _ _).symm
        have hye := hide (unhide hyk hm)
        obtain ⟨da, dc, la, lc, h10, -, heg⟩ := (unhide HC k hlt).below hb (unhide hnx)
        have hrb := unhide HN k hlt
        obtain ⟨m, hm1⟩ : ∃ m, m = nd ns k := ⟨_, rfl⟩
        rw [← hm1] at h10 heg hrb hst
        obtain ⟨dl, hdl⟩ : ∃ dl, m.data.length = dl := ⟨_, rfl⟩
        obtain ⟨ll, hll⟩ : ∃ ll, m.list.length = ll := ⟨_, rfl⟩
        rw [hdl, hll] at h10
        rw [hll] at heg
        have HS := hide (nodeSize_any9 m da dl dc la ll lc wr hdl hll heg hrb)
        have c0 := h10.c0
        have c1 := h10.c1
        have c2 := h10.c2
        have c3 := h10.c3
        have c4 := h10.c4
        have c5 := h10.c5
        have c6 := h10.c6
        have c7 := h10.c7
        have c8 := h10.c8
        have c9 := h10.c9
        generalize nodeSz9 m = sz at *
        clear h10 hdl hll heg hrb hm1 hyk
        obtain ⟨kd, md, us, gr, lk, ti, dt, tg, ls, pa⟩ := m
        unfold na at HS
        simp only at c0 c1 c2 c3 c4 c5 c6 c7 c8 c9 HS
        go_wp2_with fail
        refine (unhide HS).mono ?_
        rintro e w1 ⟨⟨r, rfl, hr1, hr2⟩, b1⟩
        have hB1 := hide ((unhide hnx).trans (b1.mono (unhide hnx).size))
        have HR2 := hide hr2
        clear b1 hr2 HS c0 c1 c2 c3 c4 c5 c6 c7 c8 c9
        go_wp2
        go_roundw
        case rel => exact ⟨k + 1, y + r, by omega, by go_num, by omega, fun h => by rw [unhide hst, ← unhide hye, ← unhide HR2 (by omega)], by go_num, hB1⟩
        case measure => simp [intOf]; omega
      · have hm' : (1048576 : Int) < (y : Int) := by omega
        go_wp2
        go_ret
        exact ⟨⟨y, rfl, hy, fun h => absurd h hm⟩, unhide hnx⟩
    · have e : k = n := by omega
      subst e
      go_wp2
      go_ret
      exact ⟨⟨y, rfl, hy, fun h => by rw [unhide HL]; exact unhide hyk h⟩, unhide hnx⟩
set_option maxRecDepth 100000 in
set_option maxHeartbeats 1000000 in
theorem treeSize9_any (a : Option Addr) (n cap : Nat) (now : Int) (ns : List Nd) (w : World) (h : Ng w a n cap ns) (hn : n ≤ 281474976710656) (hr : ∀ i, i < n → Rb9 (nd ns i)) :
    Calls Try.prog 5 #[.agg #[.slice a n cap, .int .i64 now]] w fun e w' => (∃ r : Nat, e = .returned (.int .i64 r) ∧ r ≤ 4503599627370497) ∧ Below w.heap.size w w' := by
  have hb := below_new w (.cells #[.slice a n cap, .int .i64 now] 24)
  have HS := hide (nodesSize_any9 a n cap ns (w.alloc (.cells #[.slice a n cap, .int .i64 now] 24)) (h.below hb) hn hr)
  have HB := hide hb
  clear h hr hb
  go_enter Try.func5, Try.ntmps5
  go_wp2_with fail
  refine (unhide HS).mono ?_
  rintro e w1 ⟨⟨r, rfl, hr1, _⟩, b1⟩
  have hB1 := hide ((unhide HB).trans (b1.mono (by simp)))
  clear b1 HS
  go_wp2
  go_ret
  exact ⟨⟨1 + r, by go_num, by omega⟩, unhide hB1⟩
end Go.Proofs.Ytbofidpoajdcmab.Cd
