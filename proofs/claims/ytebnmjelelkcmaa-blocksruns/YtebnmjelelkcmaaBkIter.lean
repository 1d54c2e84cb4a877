/- The blocks that come in, one by one. -/
import Derived.Test.YtebnmjelelkcmaaRng
import Derived.Test.YtebnmjelelkcmaaBkPut
import Derived.Shelf.Abstract
import Derived.OwnWalkIn
import Derived.TacticsInMore
import Derived.LoopNIn
import Derived.LoopIn
import Derived.Maps.AppendAt
set_option linter.unusedVariables false
namespace Go.Proofs.Ytebnmjelelkcmaa.Bk
open Go.RowKit Go.Shelf Cu

attribute [local go_sem] Oper.semAt_some

def bt (l : Bs) : ByteArray := ⟨l.toArray⟩
def encS (x : Bs) : Array Value := #[.string (bt x)]
theorem bt_extract (s : ByteArray) (i j : Nat) : s.extract i j = bt (((bs s).drop i).take (j - i)) := by
  apply ByteArray.ext
  simp [bt, ByteArray.data_extract]
  apply Array.ext'
  simp [List.extract_eq_take_drop]
theorem tkn_at (n : Nat) (hn : 1 ≤ n) (c : Int) (s : Bs) (f : Nat) (hf : f < s.length) (hc : c ≠ 0) :
    takeC c (ch n (s.drop f)) = ((s.drop f).take (min (f + n) s.length - f)) :: takeC (c - 1) (ch n (s.drop (min (f + n) s.length))) := by
  rw [ch_cons n hn _ (by rw [List.length_drop]; omega), takeC_cons c hc]
  by_cases h : f + n ≤ s.length
  · rw [Nat.min_eq_left h, show f + n - f = n from by omega, List.drop_drop]
  · rw [Nat.min_eq_right (by omega), List.drop_drop, show s.drop (f + n) = [] from List.drop_eq_nil_of_le (by omega), show s.drop s.length = [] from List.drop_eq_nil_of_le (Nat.le_refl _),
      List.take_of_length_le (by rw [List.length_drop]; omega), List.take_of_length_le (by rw [List.length_drop]; exact Nat.le_refl _)]
set_option maxHeartbeats 1000000 in
theorem taken_any (p : Pl) (s : ByteArray) (w : World) :
    Calls Try.prog 26 #[.agg (plC p), .string s] w fun e w' => e = .returned (.func (.func 39) #[] #[.pointer (some ⟨w.heap.size, 0, none⟩), .pointer (some ⟨w.heap.size + 1, 0, none⟩)]) ∧ w' = (w.alloc (PlO p)).alloc (.cells #[.string s] 9) := by
  have hmf : ∀ (fn : Fn) (first cap : Array Value) (w : World), (Instr.makeFunc fn first cap).run Try.prog w = .ok (.func fn first cap) w := fun _ _ _ _ => rfl
  obtain ⟨i, o, sk, ct, se, kp, sw, up, lo, sy⟩ := p
  unfold PlO plC
  go_enter Try.func26, Try.ntmps26
  go_wp2
  go_ret
  exact ⟨rfl, rfl⟩
/-- what the iterator reads -/
def Rd (b b2 : Nat) (p : Pl) (s : ByteArray) (W : World) : Prop := W.heap[b]? = some (PlO p) ∧ Boxed W b2 9 (.string s)
theorem Rd.cells {b b2 : Nat} {i o sk ct se : Int} {kp sw up lo sy : Bool} {s : ByteArray} {W : World} (h : Rd b b2 ⟨i, o, sk, ct, se, kp, sw, up, lo, sy⟩ s W) :
    W.cell? ⟨b, 0, none⟩ = some (.int .i64 i) ∧ W.cell? ⟨b, 2, none⟩ = some (.int .i64 sk) ∧ W.cell? ⟨b, 3, none⟩ = some (.int .i64 ct) ∧ W.cell? ⟨b2, 0, none⟩ = some (.string s) := by
  have h1 : W.heap[b]? = some (.cells #[.int .i64 i, .int .i64 o, .int .i64 sk, .int .i64 ct, .int .i64 se, .bool kp, .bool sw, .bool up, .bool lo, .bool sy] 23 (0, 0)) := h.1
  refine ⟨?_, ?_, ?_, h.2.cell⟩ <;> (rw [Lib.cell_of_heap h1]; rfl)

set_option maxRecDepth 100000 in
set_option maxHeartbeats 2000000 in
theorem taken_itr (b b2 : Nat) (p : Pl) (s : ByteArray) (h1 : 1 ≤ p.i) (h2 : p.i ≤ 65536) (h3 : 0 ≤ p.sk) (h4 : p.sk ≤ 2147483647) (hs : s.size ≤ 1048576) (rd : World → Prop) (hrd : ∀ W, rd W → Rd b b2 p s W) :
    Rng.Itr Try.prog 39 #[.pointer (some ⟨b, 0, none⟩), .pointer (some ⟨b2, 0, none⟩)] encS (tkn p (bs s)) rd := by
  intro l J0 Jx0 W hJ0 hJx0 hJr0 hY0 h00
  obtain ⟨T, hT⟩ : ∃ T, T = tkn p (bs s) := ⟨_, rfl⟩
  rw [← hT] at hY0 ⊢
  obtain ⟨J, eJ⟩ : ∃ J, J = J0 W.heap.size := ⟨_, rfl⟩
  obtain ⟨Jx, eJx⟩ : ∃ Jx, Jx = Jx0 W.heap.size := ⟨_, rfl⟩
  have hJ : OwnFrom W.heap.size J := eJ ▸ hJ0 W.heap.size
  have hJr : ∀ pre W1, J pre W1 → rd W1 := fun pre W1 h => hJr0 _ pre W1 (eJ ▸ h)
  have hY : ∀ m pre x W1, W.heap.size ≤ W1.heap.size → J pre W1 → pre ++ [x] <+: T → YieldAt Fence.wide m Try.prog l (encS x) W1 fun e W' =>
      W1.heap.size ≤ W'.heap.size ∧ ((e = .returned (.bool true) ∧ J (pre ++ [x]) W') ∨ (e = .returned (.bool false) ∧ Jx (pre ++ [x]) W')) := fun m pre x W1 h1 h2 h3 => by
    subst eJ eJx
    exact (hY0 m W.heap.size pre x W1 (Nat.le_refl _) h1 h2 h3).mono (fun e W' h => ⟨h.1.1, h.2⟩)
  have h0 : J [] W := eJ ▸ h00 _
  refine Calls.mono (R := fun e W' => (∃ v, e = .returned v) ∧ (J T W' ∨ ∃ pre, pre <+: T ∧ Jx pre W')) ?_ (fun e W' h => by subst eJ eJx; exact ⟨h.1, W.heap.size, Nat.le_refl _, h.2⟩)
  clear hJ0 hJx0 hJr0 hY0 h00 eJ eJx
  obtain ⟨i, o, sk, ct, se, kp, sw, up, lo, sy⟩ := p
  simp only at h1 h2 h3 h4
  obtain ⟨n, rfl⟩ : ∃ n : Nat, i = n := ⟨i.toNat, by omega⟩
  have HT : Hid (T = takeC ct (ch n ((bs s).drop (sk * n).toNat))) := hT
  clear hT
  obtain ⟨b1, b2'⟩ := prod_le h3 h4 (by omega : (0 : Int) ≤ (n : Int)) h2
  obtain ⟨q, hQ⟩ : ∃ q : Nat, sk * (n : Int) = (q : Int) := ⟨(sk * n).toNat, by omega⟩
  rw [hQ] at b1 b2' HT
  obtain ⟨f0, hf0⟩ : ∃ f0, f0 = min q s.size := ⟨_, rfl⟩
  have hmin0 : min (q : Int) (s.size : Int) = (f0 : Int) := by omega
  have HT0 : Hid (T = [] ++ takeC (ct - ((0 : Nat) : Int)) (ch n ((bs s).drop f0))) := by
    have : (bs s).drop (q : Int).toNat = (bs s).drop f0 := by
      rw [Int.toNat_natCast, hf0]
      by_cases h : q ≤ s.size
      · rw [Nat.min_eq_left h]
      · rw [Nat.min_eq_right (by omega), bs_end s q (by omega), bs_end s s.size (Nat.le_refl _)]
    rw [unhide HT, this]
    simp [Hid]
  have hf1 : f0 ≤ s.size := by omega
  clear hf0 HT
  obtain ⟨c0, c2, c3, c9⟩ := (hrd _ (hJr _ _ h0)).cells
  refine (callsIn_wide (n := 3)).1 ?_
  refine callsIn_of_wp Try.func39 rfl trivial ?_ rfl
  simp only [Try.ntmps39, List.size_toArray, List.length_cons, List.length_nil, Nat.reduceAdd, Nat.reduceSub, Array.replicate_succ, Array.replicate_zero, List.push_toArray, List.append_toArray, List.nil_append, List.cons_append]
  have HY := hide hY
  have HJr := hide hJr
  clear hY hJr hJ
  gi_wp2
  clear c0 c2 c3 c9
  gi_loopw [4, 5] (fun f i wr => ∃ (a k : Nat) (pre : List Bs), f = .int .i64 a ∧ i = .int .i64 k ∧ k ≤ a ∧ a ≤ s.size ∧ Hid (T = pre ++ takeC (ct - (k : Int)) (ch n ((bs s).drop a))) ∧ Hid (J pre wr) ∧ W.heap.size ≤ wr.heap.size)
    (fun f _ _ => s.size - (intOf f).toNat)
  case atStart => exact ⟨f0, 0, [], rfl, rfl, Nat.zero_le _, hf1, HT0, h0, Nat.le_refl _⟩
  case round =>
    clear HT0 h0 hmin0
    obtain ⟨a, k, pre, rfl, rfl, hka, ha, hcut, hJw, hWs⟩ := hrel
    obtain ⟨c0, c2, c3, c9⟩ := (hrd _ (unhide HJr _ _ (unhide hJw))).cells
    clear c2
    by_cases hkc : (k : Int) = ct
    · have hkc' : ((k : Int) != ct) = false := by simp [hkc]
      have hfin : Hid (T = pre) := by rw [unhide hcut, ← hkc, Int.sub_self, takeC_zero]; simp [Hid]
      clear hkc hcut
      gi_wp2
      go_end0
      exact ⟨⟨_, rfl⟩, .inl (by rw [unhide hfin]; exact unhide hJw)⟩
    · have hkc' : ((k : Int) != ct) = true := by simp [hkc]
      by_cases hlt : a < s.size
      · have hlt' : (a : Int) < (s.size : Int) := by omega
        obtain ⟨t, ht⟩ : ∃ t, t = min (a + n) s.size := ⟨_, rfl⟩
        have hmin : min ((a : Int) + (n : Int)) (s.size : Int) = (t : Int) := by omega
        have hx : Hid (T = (pre ++ [((bs s).drop a).take (t - a)]) ++ takeC (ct - ((k + 1 : Nat) : Int)) (ch n ((bs s).drop t))) := by
          have e := tkn_at n (by omega) (ct - (k : Int)) (bs s) a (by rw [bs_len]; exact hlt) (by omega)
          rw [bs_len, ← ht, show ct - (k : Int) - 1 = ct - ((k + 1 : Nat) : Int) from by omega] at e
          rw [unhide hcut, e]
          simp [Hid]
        have hHY : ∀ W1, W.heap.size ≤ W1.heap.size → J pre W1 → YieldAt Fence.wide 2 Try.prog l #[.string (s.extract a t)] W1 fun e W' =>
          W1.heap.size ≤ W'.heap.size ∧ ((e = .returned (.bool true) ∧ J (pre ++ [((bs s).drop a).take (t - a)]) W') ∨ (e = .returned (.bool false) ∧ Jx (pre ++ [((bs s).drop a).take (t - a)]) W')) := fun W1 h1 h2 => by
            have := unhide HY 2 pre (((bs s).drop a).take (t - a)) W1 h1 h2 (by rw [unhide hx]; exact List.prefix_append _ _)
            rw [encS, ← bt_extract] at this
            exact this
        have ht1 : a < t := by omega
        have ht2 : t ≤ s.size := by omega
        obtain ⟨fn, tmps, assign, body, hy, hR⟩ := hHY wr hWs (unhide hJw)
        clear hcut hHY ht hkc
        gi_wp2
        refine hR.mono ?_
        rintro e W3 ⟨hW3, (⟨rfl, hJ3⟩ | ⟨rfl, hJx3⟩)⟩
        · have hJ3' := hide hJ3
          clear hJ3 hR hy c0 c3 c9
          gi_wp2
          go_roundw
          case rel => exact ⟨t, k + 1, _, rfl, by go_num, by omega, ht2, hx, hJ3', Nat.le_trans hWs hW3⟩
          case measure => simp [intOf]; omega
        · have hJ3' := hide hJx3
          clear hJx3 hR hy c0 c3 c9
          gi_wp2
          refine bodyPost_ret (results_none rfl _ _ _) rfl ?_
          exact ⟨⟨_, rfl⟩, .inr ⟨_, (by rw [unhide hx]; exact List.prefix_append _ _), unhide hJ3'⟩⟩
      · have hge : ¬ (a : Int) < (s.size : Int) := by omega
        have hfin : Hid (T = pre) := by rw [unhide hcut, bs_end s a (by omega), ch_nil, takeC_nil]; simp [Hid]
        clear hcut hkc
        gi_wp2
        go_end0
        exact ⟨⟨_, rfl⟩, .inl (by rw [unhide hfin]; exact unhide hJw)⟩
end Go.Proofs.Ytebnmjelelkcmaa.Bk
