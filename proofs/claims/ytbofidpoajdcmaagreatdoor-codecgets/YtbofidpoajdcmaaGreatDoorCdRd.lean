/- The document's reader: take, one, number, count, text. -/
import Derived.Test.YtbofidpoajdcmaaGreatDoorCdGet
import Derived.BigQuiet
import Derived.BigRegion
namespace Go.Proofs.YtbofidpoajdcmaaGreatDoor.Cd
open Go.RowKit Cu Tr

/-- the document's reader: none where its bytes may not be -/
structure Rr (w : World) (rb : Nat) (a : Option Addr) (n cap : Nat) (l : Bs) (st : Option Bs) : Prop where
  c0 : w.cell? ⟨rb, 0, none⟩ = some (.slice a n cap)
  by' : By w a n cap l
  lo : 0 < n → ∀ ad, a = some ad → ad.block < rb
  ex : ∃ (i : Nat) (bad : Bool), w.cell? ⟨rb, 1, none⟩ = some (.int .i64 (i : Int)) ∧ w.cell? ⟨rb, 2, none⟩ = some (.bool bad) ∧ i ≤ n ∧ (match st with | some r => bad = false ∧ r = l.drop i | none => bad = true)
  fz : ∀ i, w.frozen? ⟨rb, i, none⟩ = false
  lt : rb < w.heap.size
  len : n ≤ 4611686018427387904
abbrev S9 (rb : Nat) : List Addr := [⟨rb, 1, none⟩, ⟨rb, 2, none⟩]
theorem S9_block {rb : Nat} : ∀ p ∈ S9 rb, p.block = rb := by
  intro p hp
  simp only [List.mem_cons, List.not_mem_nil, or_false] at hp
  rcases hp with rfl | rfl <;> rfl
theorem Rr.keep {w w' : World} {rb : Nat} {a : Option Addr} {n cap : Nat} {l : Bs} {st st' : Option Bs} (h : Rr w rb a n cap l st) (hf : Fr (S9 rb) w w') (hx : ∃ (i : Nat) (bad : Bool), w'.cell? ⟨rb, 1, none⟩ = some (.int .i64 (i : Int)) ∧ w'.cell? ⟨rb, 2, none⟩ = some (.bool bad) ∧ i ≤ n ∧ (match st' with | some r => bad = false ∧ r = l.drop i | none => bad = true)) : Rr w' rb a n cap l st' :=
  ⟨(hf.cell _ h.lt (by simp)).trans h.c0, By.low h.by' h.lo (hf.below (by have := h.lt; omega) (fun p hp => by rw [S9_block p hp]; exact Nat.le_refl _)), h.lo, hx, fun i => (hf.frozen _ h.lt).trans (h.fz i), Nat.lt_of_lt_of_le h.lt hf.size, h.len⟩
theorem Rr.off {w w' : World} {rb : Nat} {a : Option Addr} {n cap : Nat} {l : Bs} {st : Option Bs} (h : Rr w rb a n cap l st) (hb : Below (rb + 1) w w') : Rr w' rb a n cap l st := by
  obtain ⟨i, bad, h1, h2, h3⟩ := h.ex
  have hk := hb.block rb (Nat.lt_succ_self _)
  exact ⟨(World.cell?_of_block hk).trans h.c0, By.low h.by' h.lo (hb.mono (Nat.le_succ _)), h.lo, ⟨i, bad, (World.cell?_of_block hk).trans h1, (World.cell?_of_block hk).trans h2, h3⟩, fun i => (World.frozen?_of_block hk).trans (h.fz i), Nat.lt_of_lt_of_le h.lt hb.size, h.len⟩
/-- what take answers -/
def Tk9 (w : World) (rb : Nat) (a : Option Addr) (n cap : Nat) (l : Bs) (o : Option (Bs × Bs)) (e : Ending) (w' : World) : Prop := Fr (S9 rb) w w' ∧ ∃ (a' : Option Addr) (m c : Nat) (x : Bs), e = .returned (.slice a' m c) ∧ By w' a' m c x ∧
  match o with
  | some (y, r) => x = y ∧ Rr w' rb a n cap l (some r)
  | none => x = List.replicate 8 0 ∧ Rr w' rb a n cap l none
theorem zeros8 (w : World) : By (w.alloc (.cells (Lib.byteCells (List.replicate 8 0)).toArray 5)) (some ⟨w.heap.size, 0, none⟩) 8 8 (List.replicate 8 0) := by
  have h : Blk (w.alloc (.cells (Lib.byteCells (List.replicate 8 0)).toArray 5)) w.heap.size (List.replicate 8 0) := heap_alloc_new w _
  exact h.by
theorem by_mid {w : World} {a : Option Addr} {n cap : Nat} {l : Bs} (h : By w a n cap l) (i k : Nat) (hk : i + k ≤ n) (h0 : 0 < k) : By w (Option.map (fun x => x.add i) a) k (cap - i) ((l.drop i).take k) := by
  have h1 := h.le
  exact by_take (by_drop h i (by omega) (by omega)) k (by omega)
set_option maxHeartbeats 1000000 in
set_option maxRecDepth 100000 in
theorem take9_any (rb : Nat) (a : Option Addr) (n cap : Nat) (l : Bs) (st : Option Bs) (k : Nat) (w : World) (h : Rr w rb a n cap l st) (hk : k ≤ 4611686018427387904) :
    Calls Tryz.prog 127 #[.pointer (some ⟨rb, 0, none⟩), .int .i64 (k : Int)] w (Tk9 w rb a n cap l (st.bind (takeP k))) := by
  obtain ⟨i, bad, c1, c2, hi, hst⟩ := h.ex
  have c0 := h.c0
  have hlt := h.lt
  have hn := h.len
  have f1 := h.fz 1
  have f2 := h.fz 2
  have H := hide h
  have hln := h.by'.len
  have hle := h.by'.le
  have hk0 : ¬ (k : Int) < 0 := by omega
  have hk0' : decide ((k : Int) < 0) = false := decide_eq_false hk0
  have hmk : ∀ W : World, (Instr.makeSlice 23 (.int .i64 8) (.int .i64 8)).run Tryz.prog W = .ok (.slice (some ⟨W.heap.size, 0, none⟩) 8 8) (W.alloc (.cells (Lib.byteCells (List.replicate 8 0)).toArray 5)) := fun W => made_u8 W 8 (by omega)
  have E8 : Hid (∀ (q : Nat), ¬ (∃ r, st.bind (takeP k) = some r) → Fr (S9 rb) w (((w.drewN q).setCell ⟨rb, 2, none⟩ (.bool true)).alloc (.cells (Lib.byteCells (List.replicate 8 0)).toArray 5)) ∧ Rr (((w.drewN q).setCell ⟨rb, 2, none⟩ (.bool true)).alloc (.cells (Lib.byteCells (List.replicate 8 0)).toArray 5)) rb a n cap l none) := fun q _ => by
    have F1 : Fr (S9 rb) w ((w.drewN q).setCell ⟨rb, 2, none⟩ (.bool true)) := ((Fr.refl (S9 rb) w).drew q).trans ((Fr.set (w.drewN q) ⟨rb, 2, none⟩ (.bool true)).mono (by simp))
    have F2 : Fr (S9 rb) ((w.drewN q).setCell ⟨rb, 2, none⟩ (.bool true)) (((w.drewN q).setCell ⟨rb, 2, none⟩ (.bool true)).alloc (.cells (Lib.byteCells (List.replicate 8 0)).toArray 5)) := Fr.of_below (below_new _ _)
    have F := F1.trans F2
    refine ⟨F, h.keep F ⟨i, true, ?_, ?_, hi, rfl⟩⟩
    · refine ((below_new ((w.drewN q).setCell ⟨rb, 2, none⟩ (.bool true)) _).cell (p := ⟨rb, 1, none⟩) (by simpa using hlt)).trans ?_
      exact (World.cell?_setCell_other _ _ _ _ (by simp)).trans c1
    · refine ((below_new ((w.drewN q).setCell ⟨rb, 2, none⟩ (.bool true)) _).cell (p := ⟨rb, 2, none⟩) (by simpa using hlt)).trans ?_
      exact World.cell?_setCell_same _ _ _ c2
  have Z := zeros8
  have HZ := hide Z
  clear Z
  cases st with
  | none =>
    simp only at hst
    subst hst
    clear h hk0 hk0' c0
    simp only [Option.bind_none] at E8 ⊢
    go_enter Tryz.func127, Tryz.ntmps127
    go_wp2_with fail
    go_quiet (fail)
    go_wp2_with fail
    go_ret
    obtain ⟨F, R⟩ := unhide E8 nq (by rintro ⟨r, hr⟩; cases hr)
    exact ⟨F, some ⟨w.heap.size, 0, none⟩, 8, 8, List.replicate 8 0, by simp, by have := unhide HZ ((w.drewN nq).setCell ⟨rb, 2, none⟩ (.bool true)); simpa using this, rfl, R⟩
  | some r =>
    simp only at hst
    obtain ⟨rfl, rfl⟩ := hst
    have hdl : (l.drop i).length = n - i := by rw [List.length_drop, hln]
    by_cases hkr : k ≤ n - i
    · have hsome : takeP k (l.drop i) = some ((l.drop i).take k, l.drop (i + k)) := by
        unfold takeP
        rw [if_pos (by omega), List.drop_drop]
      have hkx : ¬ (n : Int) - (i : Int) < (k : Int) := by omega
      have hkx' : decide ((n : Int) - (i : Int) < (k : Int)) = false := decide_eq_false hkx
      simp only [Option.bind_some, hsome]
      clear E8
      have hcs : i + k ≤ cap := by omega
      have hik : i ≤ i + k := by omega
      have ecast : (((i + k : Nat) : Int)) = (i : Int) + (k : Int) := by omega
      have E9 : Hid (∀ (q q2 : Nat), Fr (S9 rb) w (((w.drewN q).setCell ⟨rb, 1, none⟩ (.int .i64 ((i : Int) + (k : Int)))).drewN q2) ∧ Rr (((w.drewN q).setCell ⟨rb, 1, none⟩ (.int .i64 ((i : Int) + (k : Int)))).drewN q2) rb a n cap l (some (l.drop (i + k)))) := fun q q2 => by
        have F1 : Fr (S9 rb) w (((w.drewN q).setCell ⟨rb, 1, none⟩ (.int .i64 ((i : Int) + (k : Int)))).drewN q2) := (((Fr.refl (S9 rb) w).drew q).trans ((Fr.set (w.drewN q) ⟨rb, 1, none⟩ _).mono (by simp))).drew q2
        refine ⟨F1, h.keep F1 ⟨i + k, false, ?_, ?_, by omega, rfl, rfl⟩⟩
        · rw [ecast]; exact World.cell?_setCell_same (w.drewN q) _ _ c1
        · exact (World.cell?_setCell_other (w.drewN q) _ _ _ (by simp)).trans c2
      have HBY := hide h.by'
      have HLO := hide h.lo
      have hik64 : (i : Int) + (k : Int) ≤ 9223372036854775807 := by omega
      have hadd : (i : Int) + (k : Int) - (k : Int) = (i : Int) := by omega
      have hnn : ¬ (i : Int) + (k : Int) < (i : Int) := by omega
      have hcc : ¬ (cap : Int) < (i : Int) + (k : Int) := by omega
      clear h ecast
      by_cases hic : cap = i
      · have hk00 : Hid (k = 0) := hide (by omega)
        go_enter Tryz.func127, Tryz.ntmps127
        go_wp2_with fail
        go_quiet (fail)
        go_wp2_with fail
        obtain ⟨w5, hw5⟩ : ∃ w5, w5 = (w.drewN nq).setCell ⟨rb, 1, none⟩ (.int .i64 ((i : Int) + (k : Int))) := ⟨_, rfl⟩
        have c05 : w5.cell? ⟨rb, 0, none⟩ = some (.slice a n cap) := by rw [hw5]; exact (World.cell?_setCell_other (w.drewN nq) _ _ _ (by simp)).trans c0
        have c15 : w5.cell? ⟨rb, 1, none⟩ = some (.int .i64 ((i : Int) + (k : Int))) := by rw [hw5]; exact World.cell?_setCell_same (w.drewN nq) _ _ c1
        have E5 := hide (fun q2 => unhide E9 nq q2)
        rw [← hw5] at E5 ⊢
        clear hw5 E9 c0 c1 c2 f1 f2
        go_region
        obtain ⟨F5, R5⟩ := unhide E5 1
        go_wp2_with fail
        go_ret
        have hz := unhide hk00
        refine ⟨F5, a, 0, 0, (l.drop i).take k, by rw [show i + k - i = 0 by omega]; rfl, ?_, rfl, R5⟩
        rw [hz]
        exact ⟨by simp, Nat.le_refl _, fun _ => ⟨rfl, rfl⟩, .inl rfl⟩
      · go_enter Tryz.func127, Tryz.ntmps127
        go_wp2_with fail
        go_quiet (fail)
        go_wp2_with fail
        obtain ⟨w5, hw5⟩ : ∃ w5, w5 = (w.drewN nq).setCell ⟨rb, 1, none⟩ (.int .i64 ((i : Int) + (k : Int))) := ⟨_, rfl⟩
        have c05 : w5.cell? ⟨rb, 0, none⟩ = some (.slice a n cap) := by rw [hw5]; exact (World.cell?_setCell_other (w.drewN nq) _ _ _ (by simp)).trans c0
        have c15 : w5.cell? ⟨rb, 1, none⟩ = some (.int .i64 ((i : Int) + (k : Int))) := by rw [hw5]; exact World.cell?_setCell_same (w.drewN nq) _ _ c1
        have E5 := hide (fun q2 => unhide E9 nq q2)
        rw [← hw5] at E5 ⊢
        clear hw5 E9 c0 c1 c2 f1 f2
        go_region
        obtain ⟨F5, R5⟩ := unhide E5 1
        go_wp2_with fail
        go_ret
        refine ⟨F5, Option.map (fun x => x.add i) a, k, cap - i, (l.drop i).take k, by rw [show i + k - i = k by omega]; rfl, ?_, rfl, R5⟩
        by_cases h0 : 0 < k
        · exact By.low (by_mid (unhide HBY) i k (by omega) h0) (fun hh ad e => by
            cases a with
            | none => simp at e
            | some x =>
              simp at e
              subst e
              rw [add_block]
              exact unhide HLO (by omega) x rfl) (F5.below (by omega) (fun p hp => by rw [S9_block p hp]; exact Nat.le_refl _))
        · obtain rfl : k = 0 := by omega
          refine ⟨by simp, Nat.zero_le _, fun e => ?_, .inl rfl⟩
          have : a = none := by cases a <;> simp at e ⊢
          have := (unhide HBY).nil this
          omega
    · have hnone : takeP k (l.drop i) = none := by unfold takeP; rw [if_neg (by omega)]
      have hkx : (n : Int) - (i : Int) < (k : Int) := by omega
      have hkx' : decide ((n : Int) - (i : Int) < (k : Int)) = true := decide_eq_true hkx
      simp only [Option.bind_some, hnone] at E8 ⊢
      clear h
      go_enter Tryz.func127, Tryz.ntmps127
      go_wp2_with fail
      go_quiet (fail)
      go_wp2_with fail
      go_ret
      obtain ⟨F, R⟩ := unhide E8 nq (by rintro ⟨r, hr⟩; cases hr)
      exact ⟨F, some ⟨w.heap.size, 0, none⟩, 8, 8, List.replicate 8 0, by simp, by have := unhide HZ ((w.drewN nq).setCell ⟨rb, 2, none⟩ (.bool true)); simpa using this, rfl, R⟩
/-- what one answers -/
def One9 (w : World) (rb : Nat) (a : Option Addr) (n cap : Nat) (l : Bs) (o : Option (Nat × Bs)) (e : Ending) (w' : World) : Prop := Fr (S9 rb) w w' ∧ ∃ x : Nat, x < 256 ∧ e = .returned (.int .u8 (x : Int)) ∧
  match o with
  | some (y, r) => x = y ∧ Rr w' rb a n cap l (some r)
  | none => Rr w' rb a n cap l none
/-- a byte of what was taken -/
theorem by_byte {w : World} {a : Option Addr} {m c : Nat} {x : Bs} (h : By w a m c x) (h0 : 0 < m) : ∃ b off, a = some ⟨b, off, none⟩ ∧ b < w.heap.size ∧ ∀ j, j < m → w.cell? ⟨b, off + j, none⟩ = some (.int .u8 ((x.getD j 0).toNat : Int)) := by
  rcases h.cells with h1 | ⟨b, off, e, hlt, hc⟩
  · omega
  · exact ⟨b, off, e, hlt, hc⟩
theorem numN_map (k : Nat) (st : Option Bs) : st.bind (numN k) = (st.bind (takeP k)).map fun p => (val p.1, p.2) := by
  cases st <;> rfl
theorem take_len9 {st : Option Bs} {k : Nat} {x r : Bs} (h : st.bind (takeP k) = some (x, r)) : x.length = k := by
  cases st with
  | none => cases h
  | some l => exact takeP_len h
theorem zero8_get (j : Nat) : ((List.replicate 8 0 : Bs).getD j 0).toNat = 0 := by
  match j with
  | 0 | 1 | 2 | 3 | 4 | 5 | 6 | 7 => rfl
  | j + 8 => rfl
set_option maxHeartbeats 1000000 in
set_option maxRecDepth 100000 in
theorem one9_any (rb : Nat) (a : Option Addr) (n cap : Nat) (l : Bs) (st : Option Bs) (w : World) (h : Rr w rb a n cap l st) :
    Calls Tryz.prog 79 #[.pointer (some ⟨rb, 0, none⟩)] w (One9 w rb a n cap l (st.bind (numN 1))) := by
  have T := hide (take9_any rb a n cap l st 1 w h (by omega))
  unfold Tk9 at T
  rw [numN_map]
  clear h
  go_enter Tryz.func79, Tryz.ntmps79
  go_wp2_with fail
  refine (unhide T).mono ?_
  rintro e w1 ⟨hF, a', m, c, x, rfl, hB, hm⟩
  have HF := hide hF
  have HM := hide hm
  clear T hF hm
  cases ho : st.bind (takeP 1) with
  | none =>
    rw [ho] at HM
    obtain ⟨rfl, hR⟩ := unhide HM
    have hm8 := hB.len
    simp at hm8
    subst hm8
    obtain ⟨b, off, rfl, hbl, hc⟩ := by_byte hB (by omega)
    have hc0 := hc 0 (by omega)
    rw [zero8_get, Nat.add_zero] at hc0
    have HR := hide hR
    clear hc hR hB HM
    go_wp2_with fail
    go_ret
    rw [ho]
    exact ⟨unhide HF, 0, by omega, rfl, unhide HR⟩
  | some p =>
    obtain ⟨y, r⟩ := p
    have hy := take_len9 ho
    rw [ho] at HM
    obtain ⟨rfl, hR⟩ := unhide HM
    have hm8 := hB.len
    rw [hy] at hm8
    subst hm8
    obtain ⟨b, off, rfl, hbl, hc⟩ := by_byte hB (by omega)
    have hc0 := hc 0 (by omega)
    obtain ⟨q, rfl⟩ : ∃ q, x = [q] := by
      match x, hy with
      | [q], _ => exact ⟨q, rfl⟩
    have hc1 : w1.cell? ⟨b, off, none⟩ = some (.int .u8 (q.toNat : Int)) := hc0
    have HR := hide hR
    have hq := q.toNat_lt
    have HOO := hide ho
    clear hc hR hB HM hc0 ho
    go_wp2_with fail
    go_ret
    rw [unhide HOO]
    exact ⟨unhide HF, q.toNat, by omega, rfl, by simp [val], unhide HR⟩
/-- what number answers -/
def Int9 (w : World) (rb : Nat) (a : Option Addr) (n cap : Nat) (l : Bs) (o : Option (Int × Bs)) (e : Ending) (w' : World) : Prop := Fr (S9 rb) w w' ∧ ∃ z : Int, e = .returned (.int .i64 z) ∧
  match o with
  | some (y, r) => z = y ∧ Rr w' rb a n cap l (some r)
  | none => Rr w' rb a n cap l none
theorem intP_map (st : Option Bs) : st.bind intP = (st.bind (takeP 8)).map fun p => (s64 (val p.1), p.2) := by
  cases st with
  | none => rfl
  | some l => simp only [Option.bind_some, intP, numN, Option.map_map]; rfl
theorem drop_val (x : Bs) (i : Nat) (h : i < x.length) : val (x.drop i) = (x.getD i 0).toNat + 256 * val (x.drop (i + 1)) := by
  rw [List.drop_eq_getElem_cons h, val]
  simp [List.getD, List.getElem?_eq_getElem h]
theorem or_low (v c : Nat) (hc : c < 256) : (v * 256) ||| c = c + 256 * v := by
  have h := Nat.two_pow_add_eq_or_of_lt (b := c) (i := 8) (by omega) v
  rw [Nat.mul_comm v 256, show (256 : Nat) = 2 ^ 8 from rfl, ← h]
  omega
theorem num9_step (v c : Nat) (hv : v < 256 ^ 7) (hc : c < 256) : bits .or .u64 ((v : Int) * 256) (c : Int) = ((c + 256 * v : Nat) : Int) := by
  have e1 : (v : Int) * 256 = ((v * 256 : Nat) : Int) := by omega
  rw [e1, or_u64 _ _ (by omega) (by omega), or_low _ _ hc]
set_option maxHeartbeats 1000000 in
set_option maxRecDepth 100000 in
theorem num9_any (rb : Nat) (a : Option Addr) (n cap : Nat) (l : Bs) (st : Option Bs) (w : World) (h : Rr w rb a n cap l st) :
    Calls Tryz.prog 81 #[.pointer (some ⟨rb, 0, none⟩)] w (Int9 w rb a n cap l (st.bind intP)) := by
  have T := hide (take9_any rb a n cap l st 8 w h (by omega))
  unfold Tk9 at T
  rw [intP_map]
  clear h
  go_enter Tryz.func81, Tryz.ntmps81
  go_wp2_with fail
  refine (unhide T).mono ?_
  rintro e w1 ⟨hF, a', m, c, x, rfl, hB, hm⟩
  have hx8 : x.length = 8 := by
    cases ho : st.bind (takeP 8) with
    | none => rw [ho] at hm; rw [hm.1]; rfl
    | some p => rw [ho] at hm; rw [hm.1]; exact take_len9 (x := p.1) (r := p.2) ho
  obtain rfl : 8 = m := by rw [← hB.len, hx8]
  obtain ⟨b, off, rfl, hbl, hc⟩ := by_byte hB (by omega)
  have HF := hide hF
  have HM := hide hm
  have HX := hide hx8
  have HC := hide hc
  clear T hF hm hB hx8 hc
  go_wp2_with fail
  go_loopw [4, 5] (fun v4 v5 wr => ∃ i v : Nat, i ≤ 8 ∧ v5 = .int .i64 ((i : Int) - 1) ∧ v4 = .int .u64 (v : Int) ∧ Hid (v = val (x.drop i)) ∧ wr = w1) (fun _ v5 _ => (intOf v5 + 1).toNat)
  case atStart => exact ⟨8, 0, Nat.le_refl _, rfl, rfl, by rw [List.drop_of_length_le (by rw [unhide HX]; exact Nat.le_refl _)]; rfl, rfl⟩
  case round =>
    obtain ⟨i, v, hi, rfl, rfl, hv, rfl⟩ := hrel
    cases i with
    | zero =>
      rw [List.drop_zero] at hv
      have hv8 : v < 18446744073709551616 := by
        have h1 := val_lt x
        rw [unhide HX] at h1
        rw [unhide hv]
        exact h1
      have hw := wrap_i64 v hv8
      have e1 : ((0 : Nat) : Int) - 1 = -1 := rfl
      rw [e1]
      clear e1 HC
      go_wp2_with fail
      go_ret
      have hm := unhide HM
      cases ho : st.bind (takeP 8) with
      | none => rw [ho] at hm; exact ⟨unhide HF, s64 v, rfl, hm.2⟩
      | some p =>
        rw [ho] at hm
        exact ⟨unhide HF, s64 v, rfl, by rw [unhide hv, hm.1], hm.2⟩
    | succ i =>
      have hlt' : (0 : Int) ≤ (i : Int) := by omega
      have hci := unhide HC i (by omega)
      have hS := hide (drop_val x i (by rw [unhide HX]; omega))
      have hv7 : v < 256 ^ 7 := by
        rw [unhide hv]
        have := val_lt (x.drop (i + 1))
        rw [List.length_drop, unhide HX] at this
        exact Nat.lt_of_lt_of_le this (Nat.pow_le_pow_right (by omega) (by omega))
      have hq := (x.getD i 0).toNat_lt
      generalize (x.getD i 0).toNat = q at *
      have hstep := num9_step v q hv7 (by omega)
      have e1 : ((i + 1 : Nat) : Int) - 1 = (i : Int) := by omega
      rw [e1]
      clear e1
      go_wp2_with fail
      go_roundw
      case rel => exact ⟨i, q + 256 * v, by omega, rfl, congrArg (Value.int .u64) (by omega), by show _ = _; rw [unhide hS, ← unhide hv], trivial⟩
      case measure => simp [intOf]
end Go.Proofs.YtbofidpoajdcmaaGreatDoor.Cd
