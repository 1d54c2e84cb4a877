import Derived.Test.YtidhceebafmlkaaGreatDoorTrCheck
import Derived.Test.YtidhceebafmlkaaGreatDoorTrPure
namespace Go.Proofs.YtidhceebafmlkaaGreatDoor.Tr
open Go.RowKit Cu
structure Sm (ns : List Nd) : Prop where
  hn : ns.length ≤ 1000000
  hls : ∀ i, (nd ns i).list.length ≤ 1000000000
  hby : bytesP ns ns.length ≤ 1000000000
  hna : namesP ns ns.length ≤ 1000000000
theorem checkAny {a : Option Addr} {n cap : Nat} {ns : List Nd} (now : Int) {w : World} (h : Ng w a n cap ns) (hs : Sm ns) :
    Calls Tryz.prog 36 #[.agg #[.slice a n cap, .int .i64 now]] w fun e w' => e = .returned (.bool (checkP now ns)) ∧ Below w.heap.size w w' :=
  check_any a n cap ns now w h (by rw [← h.len]; exact hs.hn) hs.hls hs.hby hs.hna
theorem box_keep {w W : World} {c : Array Value} {e : TypeId} (hb : Below (w.alloc (.cells c e)).heap.size (w.alloc (.cells c e)) W) : W.heap[w.heap.size]? = some (.cells c e) ∧ Below w.heap.size w W ∧ w.heap.size < W.heap.size := by
  have h0 : Below w.heap.size w (w.alloc (.cells c e)) := (Below.refl _ _).alloc (Nat.le_refl _) _
  have hs : w.heap.size < (w.alloc (.cells c e)).heap.size := by simp
  exact ⟨(hb.block _ hs).trans (heap_alloc_new w _), h0.trans (hb.mono h0.size), Nat.lt_of_lt_of_le hs hb.size⟩
def nodeP (now : Int) (ns : List Nd) (i : Int) : Bool := checkP now ns && decide (0 < i) && decide (i < (ns.length : Int)) && decide ((nd ns i.toNat).kind ≠ 0)
def isDirP (now : Int) (ns : List Nd) (i : Int) : Bool := nodeP now ns i && decide ((nd ns i.toNat).kind = 2)
theorem checkP_two {now : Int} {ns : List Nd} (h : checkP now ns = true) : 2 ≤ ns.length := by
  unfold checkP rootP at h
  simp only [Bool.and_eq_true, decide_eq_true_eq] at h
  exact h.1.1.1.2.1.1.1.1.1
set_option maxRecDepth 100000 in
set_option maxHeartbeats 1000000 in
theorem isNode_any (a : Option Addr) (n cap : Nat) (ns : List Nd) (now i : Int) (w : World) (h : Ng w a n cap ns) (hs : Sm ns) :
    Calls Tryz.prog 172 #[.agg #[.slice a n cap, .int .i64 now], .int .i64 i] w fun e w' => e = .returned (.bool (nodeP now ns i)) ∧ Below w.heap.size w w' := by
  have HC : Hid (∀ W, Below w.heap.size w W → Calls Tryz.prog 36 #[.agg #[.slice a n cap, .int .i64 now]] W fun e w' => e = .returned (.bool (checkP now ns)) ∧ Below W.heap.size W w') := fun W hW => checkAny now (h.below hW) hs
  have hlen := h.len
  have hQ : Hid (checkP now ns = true → 2 ≤ n) := fun q => by rw [← hlen]; exact checkP_two q
  have hP : nodeP now ns i = (checkP now ns && decide (0 < i) && decide (i < (n : Int)) && decide ((nd ns i.toNat).kind ≠ 0)) := by unfold nodeP; rw [hlen]
  rw [hP]
  clear hP hlen hs
  have HG := hide h
  clear h
  generalize checkP now ns = q at *
  have hb0 : Hid (Below w.heap.size w (w.alloc (.cells #[.slice a n cap, .int .i64 now] 24))) := (Below.refl _ _).alloc (Nat.le_refl _) _
  cases q with
  | false =>
    simp only [Bool.false_and]
    go_enter Tryz.func172, Tryz.ntmps172
    go_wp2_with fail
    refine (uh HC _ (uh hb0)).mono ?_
    rintro e w1 ⟨rfl, b1⟩
    have hB := hide (box_keep b1).2.1
    clear b1 HC HG
    go_wp2
    go_ret
    exact ⟨rfl, uh hB⟩
  | true =>
    rw [Bool.true_and]
    have h2 := uh hQ rfl
    by_cases a1 : 0 < i
    case neg =>
      rw [show decide (0 < i) = false by simp [a1]]
      simp only [Bool.false_and]
      go_enter Tryz.func172, Tryz.ntmps172
      go_wp2_with fail
      refine (uh HC _ (uh hb0)).mono ?_
      rintro e w1 ⟨rfl, b1⟩
      have hB := hide (box_keep b1).2.1
      clear b1 HC HG
      go_wp2
      go_ret
      exact ⟨rfl, uh hB⟩
    rw [show decide (0 < i) = true by simp [a1], Bool.true_and]
    by_cases a2 : i < (n : Int)
    case neg =>
      rw [show decide (i < (n : Int)) = false by simp [a2]]
      simp only [Bool.false_and]
      go_enter Tryz.func172, Tryz.ntmps172
      go_wp2_with fail
      refine (uh HC _ (uh hb0)).mono ?_
      rintro e w1 ⟨rfl, b1⟩
      have hB := hide (box_keep b1).2.1
      have c0 : w1.cell? ⟨w.heap.size, 0, none⟩ = some (.slice a n cap) := by rw [cell_of_row _ _ _ _ _ _ (box_keep b1).1]; rfl
      clear b1 HC HG
      go_wp2
      go_ret
      exact ⟨rfl, uh hB⟩
    rw [show decide (i < (n : Int)) = true by simp [a2], Bool.true_and]
    obtain ⟨k, rfl⟩ : ∃ k : Nat, i = (k : Int) := ⟨i.toNat, by omega⟩
    rw [Int.toNat_natCast]
    have hkn : k < n := by omega
    rcases (uh HG).cells with h0 | ⟨b, off, rfl, hb, hc⟩
    · omega
    have HX : Hid (∀ W, Below w.heap.size w W → W.cell? ⟨b, off + k * 10, none⟩ = some (.int .u8 (nd ns k).kind.toNat)) := fun W hW => by
      obtain ⟨_, _, _, _, q, -, -⟩ := (hc k hkn).below hb hW
      exact q.c0
    clear hc HG
    by_cases a3 : (nd ns k).kind = 0
    · rw [a3] at HX ⊢
      go_enter Tryz.func172, Tryz.ntmps172
      go_wp2_with fail
      refine (uh HC _ (uh hb0)).mono ?_
      rintro e w1 ⟨rfl, b1⟩
      have hB := hide (box_keep b1).2.1
      have c0 : w1.cell? ⟨w.heap.size, 0, none⟩ = some (.slice (some ⟨b, off, none⟩) n cap) := by rw [cell_of_row _ _ _ _ _ _ (box_keep b1).1]; rfl
      have cx : w1.cell? ⟨b, off + k * 10, none⟩ = some (.int .u8 0) := uh HX w1 (uh hB)
      clear b1 HC HX
      go_wp2
      go_ret
      exact ⟨rfl, uh hB⟩
    · rw [show decide ((nd ns k).kind ≠ 0) = true by simp [a3]]
      have a4 : ¬ ((nd ns k).kind.toNat : Int) = 0 := fun e => a3 (UInt8.toNat_inj.1 (by simpa using e))
      generalize (nd ns k).kind.toNat = kn at *
      go_enter Tryz.func172, Tryz.ntmps172
      go_wp2_with fail
      refine (uh HC _ (uh hb0)).mono ?_
      rintro e w1 ⟨rfl, b1⟩
      have hB := hide (box_keep b1).2.1
      have c0 : w1.cell? ⟨w.heap.size, 0, none⟩ = some (.slice (some ⟨b, off, none⟩) n cap) := by rw [cell_of_row _ _ _ _ _ _ (box_keep b1).1]; rfl
      have cx := uh HX w1 (uh hB)
      clear b1 HC HX
      go_wp2
      go_ret
      exact ⟨by simp; omega, uh hB⟩
set_option maxRecDepth 100000 in
set_option maxHeartbeats 1000000 in
theorem isDir_any (a : Option Addr) (n cap : Nat) (ns : List Nd) (now i : Int) (w : World) (h : Ng w a n cap ns) (hs : Sm ns) :
    Calls Tryz.prog 112 #[.agg #[.slice a n cap, .int .i64 now], .int .i64 i] w fun e w' => e = .returned (.bool (isDirP now ns i)) ∧ Below w.heap.size w w' := by
  have HC : Hid (∀ W, Below w.heap.size w W → Calls Tryz.prog 172 #[.agg #[.slice a n cap, .int .i64 now], .int .i64 i] W fun e w' => e = .returned (.bool (nodeP now ns i)) ∧ Below W.heap.size W w') := fun W hW => isNode_any a n cap ns now i W (h.below hW) hs
  have hlen := h.len
  have hQ : Hid (nodeP now ns i = true → 0 < i ∧ i < (n : Int)) := fun q => by
    unfold nodeP at q
    simp only [Bool.and_eq_true, decide_eq_true_eq] at q
    exact ⟨q.1.1.2, by rw [← hlen]; exact q.1.2⟩
  unfold isDirP
  clear hlen hs
  have HG := hide h
  clear h
  generalize nodeP now ns i = q at *
  have hb0 : Hid (Below w.heap.size w (w.alloc (.cells #[.slice a n cap, .int .i64 now] 24))) := (Below.refl _ _).alloc (Nat.le_refl _) _
  cases q with
  | false =>
    simp only [Bool.false_and]
    go_enter Tryz.func112, Tryz.ntmps112
    go_wp2_with fail
    refine (uh HC _ (uh hb0)).mono ?_
    rintro e w1 ⟨rfl, b1⟩
    have hB := hide (box_keep b1).2.1
    clear b1 HC HG
    go_wp2
    go_ret
    exact ⟨rfl, uh hB⟩
  | true =>
    rw [Bool.true_and]
    obtain ⟨a1, a2⟩ := uh hQ rfl
    obtain ⟨k, rfl⟩ : ∃ k : Nat, i = (k : Int) := ⟨i.toNat, by omega⟩
    rw [Int.toNat_natCast]
    have hkn : k < n := by omega
    rcases (uh HG).cells with h0 | ⟨b, off, rfl, hb, hc⟩
    · omega
    have HX : Hid (∀ W, Below w.heap.size w W → W.cell? ⟨b, off + k * 10, none⟩ = some (.int .u8 (nd ns k).kind.toNat)) := fun W hW => by
      obtain ⟨_, _, _, _, q, -, -⟩ := (hc k hkn).below hb hW
      exact q.c0
    clear hc HG
    by_cases a3 : (nd ns k).kind = 2
    · rw [a3] at HX ⊢
      go_enter Tryz.func112, Tryz.ntmps112
      go_wp2_with fail
      refine (uh HC _ (uh hb0)).mono ?_
      rintro e w1 ⟨rfl, b1⟩
      have hB := hide (box_keep b1).2.1
      have c0 : w1.cell? ⟨w.heap.size, 0, none⟩ = some (.slice (some ⟨b, off, none⟩) n cap) := by rw [cell_of_row _ _ _ _ _ _ (box_keep b1).1]; rfl
      have cx : w1.cell? ⟨b, off + k * 10, none⟩ = some (.int .u8 2) := uh HX w1 (uh hB)
      clear b1 HC HX
      go_wp2
      go_ret
      exact ⟨rfl, uh hB⟩
    · rw [show decide ((nd ns k).kind = 2) = false by simp [a3]]
      have a4 : ¬ ((nd ns k).kind.toNat : Int) = 2 := fun e => a3 (UInt8.toNat_inj.1 (by show (nd ns k).kind.toNat = 2; omega))
      generalize (nd ns k).kind.toNat = kn at *
      go_enter Tryz.func112, Tryz.ntmps112
      go_wp2_with fail
      refine (uh HC _ (uh hb0)).mono ?_
      rintro e w1 ⟨rfl, b1⟩
      have hB := hide (box_keep b1).2.1
      have c0 : w1.cell? ⟨w.heap.size, 0, none⟩ = some (.slice (some ⟨b, off, none⟩) n cap) := by rw [cell_of_row _ _ _ _ _ _ (box_keep b1).1]; rfl
      have cx := uh HX w1 (uh hB)
      clear b1 HC HX
      go_wp2
      go_ret
      exact ⟨by simp; omega, uh hB⟩
end Go.Proofs.YtidhceebafmlkaaGreatDoor.Tr

namespace Go.Proofs.YtidhceebafmlkaaGreatDoor.Tr
open Go.RowKit Cu
structure Rb (n : Nd) : Prop where
  tg : n.target.size ≤ 281474976710656
  da : n.data.length ≤ 281474976710656
  li : n.list.length ≤ 281474976710656
  nm : ∀ i, i < n.list.length → (en n.list i).name.size ≤ 281474976710656
def entTo (es : List En) (k : Nat) : Nat := es.length + sumTo k fun i => (en es i).name.size
def nodeSz (n : Nd) : Nat := 1 + n.target.size + n.data.length + entTo n.list n.list.length
def nodesTo (ns : List Nd) (k : Nat) : Nat := ns.length + sumTo k fun i => nodeSz (nd ns i)
set_option maxRecDepth 100000 in
set_option maxHeartbeats 1000000 in
theorem entriesSize_any (a : Option Addr) (n cap : Nat) (es : List En) (w : World) (h : Eg w a n cap es) (hn : n ≤ 281474976710656) (hnm : ∀ i, i < n → (en es i).name.size ≤ 281474976710656) :
    Calls Tryz.prog 233 #[.slice a n cap] w fun e w' => (∃ r : Nat, e = .returned (.int .i64 r) ∧ r ≤ 844424930131968 ∧ (r ≤ 1048576 → r = entTo es es.length)) ∧ Below w.heap.size w w' := by
  rcases h.cells with rfl | ⟨b, off, rfl, hb, hc⟩
  · obtain rfl : es = [] := List.eq_nil_of_length_eq_zero h.len
    go_enter Tryz.func233, Tryz.ntmps233
    go_wp2
    refine wp_loop_rounds 1 ?_
    rw [rounds_succ]
    go_wp2
    go_ret
    exact ⟨⟨0, rfl, by omega, fun _ => rfl⟩, Below.refl _ _⟩
  have hlen := h.len
  have HC := hide hc
  have HN := hide hnm
  have HL := hide hlen
  clear hc h hnm hlen
  go_enter Tryz.func233, Tryz.ntmps233
  go_wp2
  go_loopw [3, 4] (fun x i wr => ∃ k : Nat, k ≤ n ∧ x = .int .i64 (entTo es k) ∧ entTo es k ≤ 844424930131968 ∧ i = .int .i64 k ∧ Hid (wr = w)) (fun _ i _ => n - (intOf i).toNat)
  case atStart => exact ⟨0, Nat.zero_le _, by simp [entTo, sumTo, uh HL], by simp [entTo, sumTo, uh HL]; omega, rfl, rfl⟩
  case round =>
    obtain ⟨k, hk, rfl, hx3, rfl, hw⟩ := hrel
    have hww := uh hw
    subst hww
    clear hw
    have hst := hide (sumTo_succ k fun i => (en es i).name.size)
    by_cases hlt : k < n
    · have hlt' : (k : Int) < (n : Int) := by omega
      by_cases hm : entTo es k ≤ 1048576
      · have hs1 : Hid (entTo es (k + 1) = entTo es k + (en es k).name.size) := by unfold entTo; rw [uh hst]; exact (Nat.add_assoc _ _ _).symm
        have hx := uh HN k hlt
        have e0 := (uh HC k hlt).c0
        generalize entTo es k = x at *
        generalize (en es k).name = nm at *
        have hm' : (x : Int) ≤ 1048576 := by omega
        go_wp2
        go_roundw
        case rel => exact ⟨k + 1, by omega, by rw [uh hs1]; go_num, by rw [uh hs1]; omega, by go_num, trivial⟩
        case measure => simp [intOf]; omega
      · have hm' : (1048576 : Int) < (entTo es k : Int) := by omega
        generalize entTo es k = x at *
        go_wp2
        go_ret
        exact ⟨⟨x, rfl, hx3, fun h => absurd h hm⟩, Below.refl _ _⟩
    · have e : k = n := by omega
      subst e
      go_wp2
      go_ret
      exact ⟨⟨entTo es k, rfl, hx3, fun _ => by rw [uh HL]⟩, Below.refl _ _⟩
set_option maxRecDepth 100000 in
set_option maxHeartbeats 1000000 in
theorem nodeSize_any (n : Nd) (da : Option Addr) (dl dc : Nat) (la : Option Addr) (ll lc : Nat) (w : World) (hd : n.data.length = dl) (hl : n.list.length = ll) (hg : Eg w la ll lc n.list) (hr : Rb n) :
    Calls Tryz.prog 177 #[.agg (na n (.slice da dl dc) (.slice la ll lc))] w fun e w' => (∃ r : Nat, e = .returned (.int .i64 r) ∧ r ≤ 1688849860263936 ∧ (r ≤ 1048576 → r = nodeSz n)) ∧ Below w.heap.size w w' := by
  have HE : Hid (∀ W, Below w.heap.size w W → Calls Tryz.prog 233 #[.slice la ll lc] W fun e w' => (∃ r : Nat, e = .returned (.int .i64 r) ∧ r ≤ 844424930131968 ∧ (r ≤ 1048576 → r = entTo n.list n.list.length)) ∧ Below W.heap.size W w') := fun W hW => entriesSize_any la ll lc n.list W (hg.below hW) (by rw [← hl]; exact hr.li) (fun i hi => hr.nm i (by rw [hl]; exact hi))
  have htg := hr.tg
  have hda := hr.da
  rw [hd] at hda
  have hS : Hid (nodeSz n = 1 + n.target.size + dl + entTo n.list n.list.length) := by unfold nodeSz; rw [hd]; exact rfl
  generalize entTo n.list n.list.length = es at *
  have HZ : Hid (∀ z : Nat, z = nodeSz n → z = nodeSz n) := fun _ h => h
  generalize nodeSz n = sz at *
  have hB0 : Hid (∀ o, Below w.heap.size w (w.alloc o)) := fun o => (Below.refl _ _).alloc (Nat.le_refl _) o
  clear hr hg hd hl HZ
  obtain ⟨kd, md, us, gr, lk, ti, dt, tg, ls, pa⟩ := n
  unfold na
  simp only at htg hS ⊢
  generalize hts : tg.size = ts at *
  have HTS := hide hts
  by_cases a1 : 1 + (ts : Int) ≤ 1048576
  case neg =>
    go_enter Tryz.func177, Tryz.ntmps177
    go_wp2
    go_ret
    exact ⟨⟨1 + ts, by go_num, by omega, fun h => by omega⟩, uh hB0 _⟩
  by_cases a2 : 1 + (ts : Int) + (dl : Int) ≤ 1048576
  case neg =>
    go_enter Tryz.func177, Tryz.ntmps177
    go_wp2_with (go_at_call 178; go_in)
    go_ret
    exact ⟨⟨1 + ts + dl, by go_num, by omega, fun h => by omega⟩, uh hB0 _⟩
  go_enter Tryz.func177, Tryz.ntmps177
  go_wp2_with (go_at_call 178; go_in)
  refine (uh HE _ (uh hB0 _)).mono ?_
  rintro e w1 ⟨⟨r, rfl, hr1, hr2⟩, b1⟩
  have hB1 := hide ((uh hB0 _).trans (b1.mono (by simp)))
  have HR2 := hide hr2
  clear b1 HE hr2
  go_wp2
  go_ret
  exact ⟨⟨1 + ts + dl + r, by go_num, by omega, fun h => by have := uh HR2 (by omega); have := uh hS; omega⟩, uh hB1⟩
set_option maxRecDepth 100000 in
set_option maxHeartbeats 1000000 in
theorem nodesSize_any (a : Option Addr) (n cap : Nat) (ns : List Nd) (w : World) (h : Ng w a n cap ns) (hn : n ≤ 281474976710656) (hr : ∀ i, i < n → Rb (nd ns i)) :
    Calls Tryz.prog 110 #[.slice a n cap] w fun e w' => (∃ r : Nat, e = .returned (.int .i64 r) ∧ r ≤ 4503599627370496 ∧ (r ≤ 1048576 → r = nodesTo ns ns.length)) ∧ Below w.heap.size w w' := by
  rcases h.cells with rfl | ⟨b, off, rfl, hb, hc⟩
  · obtain rfl : ns = [] := List.eq_nil_of_length_eq_zero h.len
    go_enter Tryz.func110, Tryz.ntmps110
    go_wp2
    refine wp_loop_rounds 1 ?_
    rw [rounds_succ]
    go_wp2
    go_ret
    exact ⟨⟨0, rfl, by omega, fun _ => rfl⟩, Below.refl _ _⟩
  have hlen := h.len
  have HC := hide hc
  have HN := hide hr
  have HL := hide hlen
  clear hc h hr hlen
  go_enter Tryz.func110, Tryz.ntmps110
  go_wp2
  go_loopw [3, 4] (fun x i wr => ∃ k y : Nat, k ≤ n ∧ x = .int .i64 y ∧ y ≤ 4503599627370496 ∧ Hid (y ≤ 1048576 → y = nodesTo ns k) ∧ i = .int .i64 k ∧ Hid (Below w.heap.size w wr)) (fun _ i _ => n - (intOf i).toNat)
  case atStart => exact ⟨0, n, Nat.zero_le _, rfl, by omega, fun _ => by simp [nodesTo, sumTo, uh HL], rfl, Below.refl _ _⟩
  case round =>
    obtain ⟨k, y, hk, rfl, hy, hyk, rfl, hnx⟩ := hrel
    by_cases hlt : k < n
    · have hlt' : (k : Int) < (n : Int) := by omega
      by_cases hm : y ≤ 1048576
      · have hm' : (y : Int) ≤ 1048576 := by omega
        have hst : Hid (nodesTo ns (k + 1) = nodesTo ns k + nodeSz (nd ns k)) := by unfold nodesTo; rw [sumTo_succ]; exact (Nat.add_assoc _ _ _).symm
        have hye := hide (uh hyk hm)
        obtain ⟨da, dc, la, lc, h10, -, heg⟩ := (uh HC k hlt).below hb (uh hnx)
        have hrb := uh HN k hlt
        obtain ⟨m, hm1⟩ : ∃ m, m = nd ns k := ⟨_, rfl⟩
        rw [← hm1] at h10 heg hrb hst
        obtain ⟨dl, hdl⟩ : ∃ dl, m.data.length = dl := ⟨_, rfl⟩
        obtain ⟨ll, hll⟩ : ∃ ll, m.list.length = ll := ⟨_, rfl⟩
        rw [hdl, hll] at h10
        rw [hll] at heg
        have HS := hide (nodeSize_any m da dl dc la ll lc wr hdl hll heg hrb)
        have c0 := h10.c0
        have c1 := h10.c1
        have c2 := h10.c2
        have c3 := h10.c3
        have c4 := h10.c4
        have c5 := h10.c5
        have c6 := h10.c6
        have c7 := h10.c7
        have c8 := h10.c8
        have c9 := h10.c9
        generalize nodeSz m = sz at *
        clear h10 hdl hll heg hrb hm1 hyk
        obtain ⟨kd, md, us, gr, lk, ti, dt, tg, ls, pa⟩ := m
        unfold na at HS
        simp only at c0 c1 c2 c3 c4 c5 c6 c7 c8 c9 HS
        go_wp2_with fail
        refine (uh HS).mono ?_
        rintro e w1 ⟨⟨r, rfl, hr1, hr2⟩, b1⟩
        have hB1 := hide ((uh hnx).trans (b1.mono (uh hnx).size))
        have HR2 := hide hr2
        clear b1 hr2 HS c0 c1 c2 c3 c4 c5 c6 c7 c8 c9
        go_wp2
        go_roundw
        case rel => exact ⟨k + 1, y + r, by omega, by go_num, by omega, fun h => by rw [uh hst, ← uh hye, ← uh HR2 (by omega)], by go_num, hB1⟩
        case measure => simp [intOf]; omega
      · have hm' : (1048576 : Int) < (y : Int) := by omega
        go_wp2
        go_ret
        exact ⟨⟨y, rfl, hy, fun h => absurd h hm⟩, uh hnx⟩
    · have e : k = n := by omega
      subst e
      go_wp2
      go_ret
      exact ⟨⟨y, rfl, hy, fun h => by rw [uh HL]; exact uh hyk h⟩, uh hnx⟩
theorem sm_of_size {ns : List Nd} (h : nodesTo ns ns.length ≤ 200000) : Sm ns := by
  unfold nodesTo at h
  have h1 : ∀ i, i < ns.length → nodeSz (nd ns i) ≤ 200000 := fun i hi => by
    have := sumTo_le ns.length (fun j => if j = i then nodeSz (nd ns j) else 0) (fun j => nodeSz (nd ns j)) (fun j _ => by split <;> omega)
    rw [sumTo_one ns.length i (fun j => nodeSz (nd ns j)) hi] at this
    omega
  refine ⟨by omega, fun i => ?_, ?_, ?_⟩
  · by_cases hi : i < ns.length
    · have := h1 i hi
      unfold nodeSz entTo at this
      omega
    · have : nd ns i = nz := by unfold nd; simp [List.getD, List.getElem?_eq_none (show ns.length ≤ i by omega)]
      rw [this]; simp
  · have e : ∀ k, k ≤ ns.length → bytesP ns k = sumTo k fun i => (nd ns i).data.length := by
      intro k
      induction k with
      | zero => intro _; simp [bytesP, sumTo]
      | succ k ih => intro hk; rw [bytesP_succ ns k (by omega), sumTo_succ, ih (by omega)]
    rw [e _ (Nat.le_refl _)]
    have := sumTo_le ns.length (fun i => (nd ns i).data.length) (fun i => nodeSz (nd ns i)) (fun i _ => by unfold nodeSz; omega)
    omega
  · rw [names_sum ns _ (Nat.le_refl _)]
    have := sumTo_le ns.length (fun i => (nd ns i).list.length) (fun i => nodeSz (nd ns i)) (fun i _ => by unfold nodeSz entTo; omega)
    omega
end Go.Proofs.YtidhceebafmlkaaGreatDoor.Tr
