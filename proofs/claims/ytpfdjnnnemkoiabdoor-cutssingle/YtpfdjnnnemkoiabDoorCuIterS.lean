/- The iterators of texts: a line's fields; things at places that count. -/
import Derived.Test.YtpfdjnnnemkoiabDoorCuIter
import Derived.Test.YtpfdjnnnemkoiabDoorCuFPlain
namespace Go.Proofs.YtpfdjnnnemkoiabDoor.Cu
open Go.RowKit Go.Shelf

attribute [local go_sem] Oper.semAt_some

theorem grown_drewN (w : World) (q : Nat) (row : Option Nat) : w.grownBy (w.drewN q) row := ⟨rfl, rfl, rfl, Nat.le_refl _, fun _ _ _ => rfl⟩
theorem Tryd.infoStr : (Tryd.prog.info? 9).map (fun i => (i.zero, i.size, i.bytes)) = some (some (.string ByteArray.empty), 1, 16) := by kernel_rfl
theorem bt_extract (s : ByteArray) (i j : Nat) : s.extract i j = bt (((bs s).drop i).take (j - i)) := by
  apply ByteArray.ext
  simp [bt, ByteArray.data_extract]
  apply Array.ext'
  simp [List.extract_eq_take_drop]

set_option maxHeartbeats 1000000 in
theorem eachField_any (s : ByteArray) (sep : UInt8) (w : World) :
    Calls Tryd.prog 29 #[.string s, .int .u8 sep.toNat] w fun e w' => e = .returned (.func (.func 45) #[] #[.pointer (some ⟨w.heap.size, 0, none⟩), .pointer (some ⟨w.heap.size + 1, 0, none⟩)]) ∧ w' = (w.alloc (.cells #[.string s] 9)).alloc (.cells #[.int .u8 sep.toNat] 5) := by
  have hmf : ∀ (fn : Fn) (first cap : Array Value) (w : World), (Instr.makeFunc fn first cap).run Tryd.prog w = .ok (.func fn first cap) w := fun _ _ _ _ => rfl
  go_enter Tryd.func29, Tryd.ntmps29
  go_wp2
  go_ret
  exact ⟨rfl, rfl⟩

set_option maxRecDepth 100000 in
set_option maxHeartbeats 2000000 in
theorem eachField_itr (b b2 : Nat) (s : ByteArray) (sep : UInt8) (hs : s.size ≤ 1073741824) (rd : World → Prop) (hrd : ∀ W, rd W → Boxed W b 9 (.string s) ∧ Boxed W b2 5 (.int .u8 sep.toNat)) :
    Rng.Itr Tryd.prog 45 #[.pointer (some ⟨b, 0, none⟩), .pointer (some ⟨b2, 0, none⟩)] encS (fcut sep (bs s)) rd := by
  intro l J0 Jx0 W hJ0 hJx0 hJr0 hY0 h00
  obtain ⟨J, eJ⟩ : ∃ J, J = J0 W.heap.size := ⟨_, rfl⟩
  obtain ⟨Jx, eJx⟩ : ∃ Jx, Jx = Jx0 W.heap.size := ⟨_, rfl⟩
  have hJ : OwnFrom W.heap.size J := eJ ▸ hJ0 W.heap.size
  have hJr : ∀ pre W1, J pre W1 → rd W1 := fun pre W1 h => hJr0 _ pre W1 (eJ ▸ h)
  have hY : ∀ m pre x W1, W.heap.size ≤ W1.heap.size → J pre W1 → pre ++ [x] <+: fcut sep (bs s) → YieldAt Fence.wide m Tryd.prog l (encS x) W1 fun e W' =>
      W1.heap.size ≤ W'.heap.size ∧ ((e = .returned (.bool true) ∧ J (pre ++ [x]) W') ∨ (e = .returned (.bool false) ∧ Jx (pre ++ [x]) W')) := fun m pre x W1 h1 h2 h3 => by
    subst eJ eJx
    exact (hY0 m W.heap.size pre x W1 (Nat.le_refl _) h1 h2 h3).mono (fun e W' h => ⟨h.1.1, h.2⟩)
  have h0 : J [] W := eJ ▸ h00 _
  refine Calls.mono (R := fun e W' => (∃ v, e = .returned v) ∧ (J (fcut sep (bs s)) W' ∨ ∃ pre, pre <+: fcut sep (bs s) ∧ Jx pre W')) ?_ (fun e W' h => by subst eJ eJx; exact ⟨h.1, W.heap.size, Nat.le_refl _, h.2⟩)
  clear hJ0 hJx0 hJr0 hY0 h00 eJ eJx
  refine (callsIn_wide (n := 3)).1 ?_
  refine callsIn_of_wp Tryd.func45 rfl trivial ?_ rfl
  simp only [Tryd.ntmps45, List.size_toArray, List.length_cons, List.length_nil, Nat.reduceAdd, Nat.reduceSub, Array.replicate_succ, Array.replicate_zero, List.push_toArray, List.append_toArray, List.nil_append, List.cons_append]
  have HY := hide hY
  have HJ := hide hJ
  have HJr := hide hJr
  clear hY hJr hJ
  gi_wp2
  gi_loopw [4, 5] (fun f i wr => ∃ (a k : Nat) (pre : List Bs), f = .int .i64 a ∧ i = .int .i64 k ∧ a ≤ k ∧ k ≤ s.size ∧ Hid (fcut sep (bs s) = pre ++ fcut sep ((bs s).drop a)) ∧ Hid (∀ c ∈ ((bs s).drop a).take (k - a), c ≠ sep) ∧ Hid (J pre wr) ∧ W.heap.size ≤ wr.heap.size)
    (fun _ i _ => s.size - (intOf i).toNat)
  case atStart => exact ⟨0, 0, [], rfl, rfl, Nat.le_refl _, Nat.zero_le _, rfl, (fun c hc => by simp at hc), h0, Nat.le_refl _⟩
  case round =>
    obtain ⟨a, k, pre, rfl, rfl, hak, hk, hcut, hcl, hJw, hWs⟩ := hrel
    have hr1 := (hrd _ (unhide HJr _ _ (unhide hJw))).1.cell
    have hr2 := (hrd _ (unhide HJr _ _ (unhide hJw))).2.cell
    by_cases hlt : k < s.size
    · have hlt' : (k : Int) < (s.size : Int) := by omega
      have hll : k < (bs s).length := by rw [bs_len]; exact hlt
      by_cases hp : s[k] = sep
      · have hx := hide (fcut_go (unhide hcut) hak hll (unhide hcl) hp)
        have e1 : ((s[k].toNat : Int) == (sep.toNat : Int)) = true := by rw [hp]; simp
        clear hp hcut hcl
        gi_wp2
        refine wpIn_wide.2 ?_
        go_quiet (fail)
        have hJq : Hid (J pre (wr.drewN nq)) := unhide HJ _ _ _ none (unhide hJw) (grown_drewN _ _ _) (fun r e => by cases e)
        obtain ⟨fn, tmps, assign, body, hy, hR⟩ := unhide HY 2 pre (((bs s).drop a).take (k - a)) (wr.drewN nq) hWs (unhide hJq) (by rw [unhide hx]; exact List.prefix_append _ _)
        rw [encS, ← bt_extract] at hy
        gi_wp2
        refine hR.mono ?_
        rintro e W3 ⟨hW3, (⟨rfl, hJ3⟩ | ⟨rfl, hJx3⟩)⟩
        · have hJ3' := hide hJ3
          clear hJ3 hR hy hr1 hr2 e1 hJq
          gi_wp2
          go_roundw
          case rel => exact ⟨k + 1, k + 1, pre ++ [((bs s).drop a).take (k - a)], by go_num, by go_num, Nat.le_refl _, by omega, hx, (fun c hc => by simp at hc), hJ3', Nat.le_trans hWs hW3⟩
          case measure => simp [intOf]; omega
        · have hJ3' := hide hJx3
          clear hJx3 hR hy hr1 hr2 e1 hJq
          gi_wp2
          refine bodyPost_ret (results_none rfl _ _ _) rfl ?_
          exact ⟨⟨_, rfl⟩, .inr ⟨_, (by rw [unhide hx]; exact List.prefix_append _ _), unhide hJ3'⟩⟩
      · have e1 : ((s[k].toNat : Int) == (sep.toNat : Int)) = false := by simp; intro e; exact hp (UInt8.toNat_inj.1 (by omega))
        have hcl2 : Hid (∀ c ∈ ((bs s).drop a).take (k + 1 - a), c ≠ sep) := take_more hak hll (unhide hcl) hp
        clear hp hcl
        gi_wp2
        refine wpIn_wide.2 ?_
        go_quiet (fail)
        gi_wp2
        go_roundw
        case rel => exact ⟨a, k + 1, pre, rfl, by go_num, by omega, by omega, hcut, hcl2, unhide HJ _ _ _ none (unhide hJw) (grown_drewN _ _ _) (fun r e => by cases e), hWs⟩
        case measure => simp [intOf]; omega
    · obtain rfl : k = s.size := by omega
      have hx := hide (fcut_end (unhide hcut) (by rw [bs_len]; exact unhide hcl))
      obtain ⟨fn, tmps, assign, body, hy, hR⟩ := unhide HY 2 pre ((bs s).drop a) wr hWs (unhide hJw) (by rw [unhide hx]; exact List.prefix_refl _)
      rw [encS, show bt ((bs s).drop a) = s.extract a s.size from by rw [bt_extract]; congr 1; rw [List.take_of_length_le (by rw [List.length_drop, bs_len]; exact Nat.le_refl _)]] at hy
      clear hcut hcl
      gi_wp2
      refine hR.mono ?_
      rintro e W3 ⟨hW3, (⟨rfl, hJ3⟩ | ⟨rfl, hJx3⟩)⟩
      · have hJ3' := hide hJ3
        clear hJ3 hR hy
        gi_wp2
        go_end0
        exact ⟨⟨_, rfl⟩, .inl (by rw [unhide hx]; exact unhide hJ3')⟩
      · have hJ3' := hide hJx3
        clear hJx3 hR hy
        gi_wp2
        go_end0
        exact ⟨⟨_, rfl⟩, .inr ⟨_, (by rw [unhide hx]; exact List.prefix_refl _), unhide hJ3'⟩⟩

set_option maxHeartbeats 1000000 in
theorem chosenS_any (gf : Nat) (lbT : Array Value) (gc : Nat) (lbC : Array Value) (w : World) :
    Calls Tryd.prog 28 #[.func (.func gf) #[] lbT, .func (.func gc) #[] lbC] w fun e w' => e = .returned (.func (.func 44) #[] #[.pointer (some ⟨w.heap.size, 0, none⟩), .pointer (some ⟨w.heap.size + 1, 0, none⟩)]) ∧ w' = (w.alloc (.cells #[.func (.func gf) #[] lbT] 57)).alloc (.cells #[.func (.func gc) #[] lbC] 53) := by
  have hmf : ∀ (fn : Fn) (first cap : Array Value) (w : World), (Instr.makeFunc fn first cap).run Tryd.prog w = .ok (.func fn first cap) w := fun _ _ _ _ => rfl
  go_enter Tryd.func28, Tryd.ntmps28
  go_wp2
  go_ret
  exact ⟨rfl, rfl⟩

set_option maxRecDepth 100000 in
set_option maxHeartbeats 2000000 in
theorem chosenS_itr (bT bC : Nat) (gf : Nat) (lbT : Array Value) (gc : Nat) (lbC : Array Value) (xs : List Bs) (p : Nat → Bool) (rd : World → Prop)
    (hrd : ∀ W, rd W → Boxed W bT 57 (.func (.func gf) #[] lbT) ∧ Boxed W bC 53 (.func (.func gc) #[] lbC))
    (hit : Rng.Itr2 Tryd.prog gf lbT encS xs rd)
    (egf : ∀ args w, (callFunc gf args).run Tryd.prog w = .ok (.enter gf args) w) (egc : ∀ args w, (callFunc gc args).run Tryd.prog w = .ok (.enter gc args) w)
    (hc : ∀ (k : Nat) (W : World), k ≤ xs.length → rd W → Calls Tryd.prog gc (#[.int .i64 k] ++ lbC) W fun e W' => e = .returned (.bool (p k)) ∧ Below W.heap.size W W')
    (hxs : xs.length ≤ 1073741824) :
    Rng.Itr2 Tryd.prog 44 #[.pointer (some ⟨bT, 0, none⟩), .pointer (some ⟨bC, 0, none⟩)] encS (pick p 0 xs) rd := by
  intro lo J Jx w hJ hJx hJk hJr hY h0
  have hr0 := hrd _ (hJr 0 _ _ (h0 0))
  have HC := hide hc
  have HJ := hide hJ
  have HJx := hide hJx
  have HJr := hide hJr
  have HJk := hide hJk
  have HY := hide hY
  have H0 := hide h0
  have HRD := hide hrd
  have HIT := hide hit
  clear hc hJ hJx hJr hY h0 hJk hrd hit
  have hc1 := ((hr0.1.alloc (.cells #[.func (.yield lo) #[] #[]] 76)).alloc (.cells #[.int .i64 0] 3)).cell
  refine (callsIn_wide (n := 3)).1 ?_
  refine callsIn_of_wp_marks Tryd.func44 rfl trivial ?_ rfl
  simp only [Tryd.ntmps44, List.size_toArray, List.length_cons, List.length_nil, Nat.reduceAdd, Nat.reduceSub, Array.replicate_succ, Array.replicate_zero, List.push_toArray, List.append_toArray, List.nil_append, List.cons_append]
  gi_wp2
  have hr1 := hr0.1.cell
  clear hc1 hr1 hr0
  have bY := (Boxed.new w 76 (.func (.yield lo) #[] #[])).alloc (.cells #[.int .i64 0] 3)
  have bP := Boxed.new (w.alloc (.cells #[.func (.yield lo) #[] #[]] 76)) 3 (.int .i64 0)
  rw [World.size_alloc] at bP
  have H0' : Hid (∀ N, J N [] ((w.alloc (.cells #[.func (.yield lo) #[] #[]] 76)).alloc (.cells #[.int .i64 0] 3))) := fun N => (unhide HJ N).alloc _ ((unhide HJ N).alloc _ (unhide H0 N))
  have hsz : ((w.alloc (.cells #[.func (.yield lo) #[] #[]] 76)).alloc (.cells #[.int .i64 0] 3)).heap.size = w.heap.size + 2 := by simp
  generalize ((w.alloc (.cells #[.func (.yield lo) #[] #[]] 76)).alloc (.cells #[.int .i64 0] 3)) = W0 at *
  refine Rng.range2 (gf := gf) (lb := lbT) rfl egf (unhide HIT) (fun _ => rfl)
    (fun N pre W => J N (pick p 0 pre) W ∧ Boxed W w.heap.size 76 (.func (.yield lo) #[] #[]) ∧ Boxed W (w.heap.size + 1) 3 (.int .i64 pre.length))
    (fun N c pre W => Jx N (pick p 0 pre) W ∧ c = .ret)
    (fun N => OwnFrom.and (fun pre X Y row h1 hg hr => ownFrom_mono (unhide HJ N) (show w.heap.size ≤ W0.heap.size by omega) (pick p 0 pre) X Y row h1 hg hr) (OwnFrom.and (Own.from (boxed_own _ _ (fun _ => .func (.yield lo) #[] #[])) _) (Own.from (boxed_own _ _ (fun pre : List Bs => .int .i64 pre.length)) _)))
    (fun N c => OwnFrom.and (fun pre X Y row h1 hg hr => ownFrom_mono (unhide HJx N) (show w.heap.size ≤ W0.heap.size by omega) (pick p 0 pre) X Y row h1 hg hr) (ownFrom_pure _ _))
    (fun N pre W b v h1 h2 h => ⟨unhide HJk N _ W b v (by omega) h2 h.1, h.2.1.other (by omega) _, h.2.2.other (by omega) _⟩)
    (fun N pre W h => unhide HJr N _ _ h.1)
    (fun N => ⟨unhide H0' N, bY, bP⟩)
    (fun x => { tmps := #[.func (.yield lo) #[] #[], .pointer (some ⟨bT, 0, none⟩), .pointer (some ⟨bC, 0, none⟩), .pointer (some ⟨w.heap.size, 0, none⟩), .pointer (some ⟨w.heap.size + 1, 0, none⟩), .string (bt x), .func (.func gf) #[] lbT, .string (bt x), undef, undef, undef, undef, undef, undef, undef, undef, undef, undef, undef], defers := [] }) ?assign ?body ?done ?stop
  case assign =>
    intro m l x W K hK
    simp only [encS]
    gi_wp2
    exact hK
  case body =>
    rintro m l N pre x W ⟨hj, hY, hP⟩ hpre hN1 hN2
    rw [hsz] at hN1
    have hlen : pre.length + 1 ≤ xs.length := by have := hpre.length_le; simpa using this
    have hcP := hP.cell
    have hfP := hP.frozen
    obtain ⟨W1, hW1⟩ : ∃ W1, W1 = W.setCell ⟨w.heap.size + 1, 0, none⟩ (.int .i64 ((pre.length : Int) + 1)) := ⟨_, rfl⟩
    have hcast : ((pre.length + 1 : Nat) : Int) = (pre.length : Int) + 1 := by omega
    have hj1 : J N (pick p 0 pre) W1 := by rw [hW1]; exact unhide HJk N _ W _ _ (by omega) (by omega) hj
    have hP1 : Boxed W1 (w.heap.size + 1) 3 (.int .i64 ((pre.length : Int) + 1)) := by rw [hW1]; exact hP.set _
    have hY1 : Boxed W1 w.heap.size 76 (.func (.yield lo) #[] #[]) := by rw [hW1]; exact hY.other (by omega) _
    have hS1 : Rng.Stays W0.heap.size N W W1 := by rw [hW1]; exact Rng.Stays.set _ _ _ (by omega)
    have hrd1 := unhide HRD W1 (unhide HJr N _ _ hj1)
    have C := hide (unhide HC (pre.length + 1) W1 hlen (unhide HJr N _ _ hj1))
    rw [hcast] at C
    have hcC := hrd1.2.cell
    have hcP1 := hP1.cell
    have HJ1 := hide hj1
    clear hj hj1 hrd1 hcast
    have hsz1 := hS1.1
    have HW1 := hide hW1
    rw [hW1] at hcC hcP1
    clear hW1
    gi_wp2_with fail
    rw [← unhide HW1]
    refine ⟨trivial, fun h => absurd h (by simp [Fence.wide]), CallsIn.inRound l ((callsIn_wide.2 (unhide C)).mono ?_)⟩
    rintro e W2 ⟨rfl, hB2⟩
    have hN3 : N ≤ W2.heap.size := Nat.le_trans (Nat.le_trans hN2 hsz1) hB2.size
    have hj2 : J N (pick p 0 pre) W2 := ownFrom_belowAll (unhide HJ N) (unhide HJ1) hB2
    have hY2 : Boxed W2 w.heap.size 76 (.func (.yield lo) #[] #[]) := boxed_below hB2 hY1 (by omega)
    have hP2 : Boxed W2 (w.heap.size + 1) 3 (.int .i64 ((pre.length : Int) + 1)) := boxed_below hB2 hP1 (by omega)
    have hS2 : Rng.Stays W0.heap.size N W W2 := hS1.trans (Rng.Stays.below (hB2.mono (by omega)))
    clear C hcC hcP1 HJ1 HW1 hP1 hY1 hB2 hS1 hsz1 hcP hfP hY hP
    have hlen2 : (pre ++ [x]).length = pre.length + 1 := by simp
    cases hp : p (pre.length + 1)
    · have hsn : Hid (pick p 0 (pre ++ [x]) = pick p 0 pre) := by rw [pick_snoc, hp]; simp [Hid]
      have hj3 := hide hj2
      clear hp hj2
      gi_wp2
      refine ⟨fun _ h => (by cases h), ?_⟩
      gi_wp2
      refine ⟨hS2, by rw [unhide hsn]; exact unhide hj3, hY2, ?_⟩
      rw [hlen2]
      exact hP2
    · have hsn : Hid (pick p 0 (pre ++ [x]) = pick p 0 pre ++ [x]) := by rw [pick_snoc, hp]; simp [Hid]
      have hpre2 := pick_prefix p hpre
      rw [unhide hsn] at hpre2
      obtain ⟨fn, tmps, assign, body, hy, hRd⟩ := unhide HY (m - 1) N (pick p 0 pre) x W2 (by omega) hN3 hj2 hpre2
      rw [encS] at hy
      have hj3 := hide hj2
      have hcY := hY2.cell
      clear hp hj2
      gi_wp2
      refine ⟨fun h => absurd h (by simp [Fence.wide]), ?_⟩
      refine RoundIn.mono (F := Fence.wide.inRound l) hRd ?_
      rintro e W3 ⟨hSt, (⟨rfl, hJ3⟩ | ⟨rfl, hJx3⟩)⟩
      · have hJ3' : Hid (J N (pick p 0 pre ++ [x]) W3) := hJ3
        clear hJ3 hRd hy hcY
        gi_wp2
        refine ⟨hS2.trans (hSt.mono (by omega) (Nat.le_refl _)), by rw [unhide hsn]; exact unhide hJ3', stays_boxed hSt hY2 (by omega) (by omega), ?_⟩
        rw [hlen2]
        exact stays_boxed hSt hP2 (by omega) (by omega)
      · have hJ3' : Hid (Jx N (pick p 0 pre ++ [x]) W3) := hJx3
        clear hJx3 hRd hy hcY
        gi_wp2
        exact ⟨hS2.trans (hSt.mono (by omega) (Nat.le_refl _)), by rw [unhide hsn]; exact unhide hJ3', rfl⟩
  case done =>
    rintro N W hN ⟨hj, hY, hP⟩ hD
    gi_wp2
    refine ⟨by simp, .inl ⟨_, _, rfl, run_takeDeferred hD, ?_⟩⟩
    exact ⟨_, results_none (fn := Tryd.f44) rfl _ _ _, ⟨_, rfl⟩, N, by omega, .inl ((unhide HJ N).putObj _ hj (by omega) hD rfl)⟩
  case stop =>
    rintro N c pre W hN hpre ⟨hj, rfl⟩ hD
    gi_wp2
    refine ⟨by simp, .inl ⟨_, _, rfl, run_takeDeferred hD, ?_⟩⟩
    exact ⟨_, results_none (fn := Tryd.f44) rfl _ _ _, ⟨_, rfl⟩, N, by omega, .inr ⟨_, pick_prefix p hpre, (unhide HJx N).putObj _ hj (by omega) hD rfl⟩⟩

def cellsS (pre : List Bs) : List Value := pre.map fun q => .string (bt q)
theorem cellsS_snoc (pre : List Bs) (x : Bs) : cellsS (pre ++ [x]) = cellsS pre ++ [.string (bt x)] := by simp [cellsS]

set_option maxRecDepth 100000 in
set_option maxHeartbeats 2000000 in
theorem appendSeqS_any (gf : Nat) (lb : Array Value) (xs : List Bs) (rd : World → Prop) (w : World) (eg : ∀ args w, (callFunc gf args).run Tryd.prog w = .ok (.enter gf args) w) (hit : Rng.Itr2 Tryd.prog gf lb encS xs rd)
    (hrd : ∀ W, Below w.heap.size w W → rd W) (hlen : xs.length ≤ 1073741824) :
    Calls Tryd.prog 40 #[.slice none 0 0, .func (.func gf) #[] lb] w fun e w' => ∃ v, e = .returned v ∧ w'.ownsRow w.heap.size 9 1 v xs.length (cellsS xs) ∧ Below w.heap.size w w' := by
  obtain ⟨i0, hi, hz0, hz1, hz2⟩ := info_parts Tryd.infoStr
  have HRD := hide hrd
  clear hrd
  refine (callsIn_wide (n := 3)).1 ?_
  refine callsIn_of_wp_marks Tryd.func40 rfl trivial ?_ rfl
  simp only [Tryd.ntmps40, List.size_toArray, List.length_cons, List.length_nil, Nat.reduceAdd, Nat.reduceSub, Array.replicate_succ, Array.replicate_zero, List.push_toArray, List.append_toArray, List.nil_append, List.cons_append]
  gi_wp2
  have bL := Boxed.new w 28 (.slice none 0 0)
  have hB0 : Below w.heap.size w (w.alloc (.cells #[.slice none 0 0] 28)) := (Below.refl _ w).alloc (Nat.le_refl _) _
  have hsz : (w.alloc (.cells #[.slice none 0 0] 28)).heap.size = w.heap.size + 1 := by simp
  generalize (w.alloc (.cells #[.slice none 0 0] 28)) = W0 at *
  refine Rng.range2 (gf := gf) (lb := lb) rfl eg hit (fun _ => rfl)
    (fun N pre W => (∃ v, Boxed W w.heap.size 28 v ∧ W.ownsRow N 9 1 v pre.length (cellsS pre) ∧ True) ∧ Below w.heap.size w W)
    (fun _ _ _ _ => False)
    (fun N => OwnFrom.and (Own.from (holdsRow_own N w.heap.size 28 9 1 (fun pre => pre.length) cellsS (fun _ _ => True)) _) (ownFrom_below (Nat.le_refl _) (by omega)))
    (fun _ _ _ _ _ _ hs _ _ => hs)
    (fun N pre W b v h1 h2 ⟨⟨u, hu, hr, _⟩, hB⟩ => ⟨⟨u, hu.other (by omega) _, own_set hr h2, trivial⟩, hB.setCell (p := ⟨b, 0, none⟩) (by simp; omega) _⟩)
    (fun _ _ _ h => unhide HRD _ h.2)
    (fun N => ⟨⟨_, bL, World.ownsRow_nil _ _ _ _, trivial⟩, hB0⟩)
    (fun x => { tmps := #[.slice none 0 0, .func (.func gf) #[] lb, .pointer (some ⟨w.heap.size, 0, none⟩), undef, .slice none 0 0, .string (bt x), .func (.func gf) #[] lb, .string (bt x), undef, undef, undef, undef, undef], defers := [] }) ?assign ?body ?done ?stop
  case assign =>
    intro m l x W K hK
    simp only [encS]
    gi_wp2
    exact hK
  case body =>
    rintro m l N pre x W ⟨⟨v, hv, hrow, _⟩, hB⟩ hpre hN1 hN2
    rw [hsz] at hN1
    have hc := hv.cell
    have hplt : pre.length + 1 ≤ 1073741824 := by have := hpre.length_le; simp at this; omega
    gi_wp2_with (gi_at_builtin; refine wpListIn_append_own _ rfl _ _ 28 rfl N 9 i0 _ 1 16 Tryd.underlying28 hi hz0 hz1 hz2 rfl (by decide) _ _ _ rfl (hrow.alloc _) ⟨W.heap.size, 0, none⟩ 1 1 [.string (bt x)] rfl rfl (cell_one_new _ _ _) (by simp [Value.oneCell']) (by unfold maxLen; omega) (by omega) (by simp; omega) ?_; intro v' w1 hown' hgrow _; obtain ⟨g', cap', rfl⟩ := ownsRow_succ hown'; have hv1 := app_box hv (by omega) hrow hgrow; have hK1 := app_stays (B := W0.heap.size) hN2 hrow hgrow; have hB1 := app_below hB (by omega) (Nat.le_refl _) hrow hgrow; have hc1 := hv1.cell; have hf1 := hv1.frozen)
    refine ⟨hK1.trans (Rng.Stays.set _ _ _ (by omega)), ⟨_, hv1.set _, ?_, trivial⟩, hB1.setCell (p := ⟨w.heap.size, 0, none⟩) (Nat.le_refl _) _⟩
    rw [cellsS_snoc, List.length_append]
    exact own_set hown' (by omega)
  case done =>
    rintro N W hN ⟨⟨v, hv, hrow, _⟩, hB⟩ hD
    have hc := hv.cell
    gi_wp2
    refine ⟨by simp, .inl ⟨_, _, rfl, run_takeDeferred hD, ?_⟩⟩
    exact ⟨_, results_tmp (fn := Tryd.f40) (t := 4) rfl _ _ _, v, rfl, own_base' (ownsRow_putObj hrow _ hD rfl) (by omega), hB.trans (belowK_b (w := w) (Nat.le_refl _) _ _ _ _ (by omega) hD rfl rfl)⟩
  case stop =>
    rintro N c pre W _ _ h _
    exact h.elim

set_option maxHeartbeats 1000000 in
theorem collectS_any (gf : Nat) (lb : Array Value) (xs : List Bs) (rd : World → Prop) (w : World) (eg : ∀ args w, (callFunc gf args).run Tryd.prog w = .ok (.enter gf args) w) (hit : Rng.Itr2 Tryd.prog gf lb encS xs rd)
    (hrd : ∀ W, Below w.heap.size w W → rd W) (hlen : xs.length ≤ 1073741824) :
    Calls Tryd.prog 22 #[.func (.func gf) #[] lb] w fun e w' => ∃ v, e = .returned v ∧ w'.ownsRow w.heap.size 9 1 v xs.length (cellsS xs) ∧ Below w.heap.size w w' := by
  have H := hide (appendSeqS_any gf lb xs rd w eg hit hrd hlen)
  clear hit hrd eg
  go_enter Tryd.func22, Tryd.ntmps22
  go_wp2_with fail
  refine (unhide H).mono ?_
  rintro e w' ⟨v, rfl, hO, hB⟩
  go_wp2_with fail
  go_ret
  exact ⟨v, rfl, hO, hB⟩
end Go.Proofs.YtpfdjnnnemkoiabDoor.Cu
