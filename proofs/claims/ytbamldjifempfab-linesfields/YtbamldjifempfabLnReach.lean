/- What reach, Head, Tail, HeadBytes and TailBytes answer. -/
import Derived.Test.YtbamldjifempfabLnSplit
namespace Go.Proofs.Ytbamldjifempfab.Ln
open Go.RowKit Go.Shelf

attribute [local go_sem] Oper.semAt_some

/-- how many bytes the first so many lines have -/
def reachN (l : List UInt8) (n : Int) : Nat := szs ((parts isEnd l).take n.toNat)
theorem szs_snoc (pre : List (List UInt8 × Bool)) (x : List UInt8 × Bool) : szs (pre ++ [x]) = szs pre + sz x := by simp [szs]
theorem szs_take_le (p : List (List UInt8 × Bool)) (k : Nat) : szs (p.take k) ≤ szs p := by
  have : szs (p.take k ++ p.drop k) = szs (p.take k) + szs (p.drop k) := by simp [szs, -List.take_append_drop]
  rw [List.take_append_drop] at this
  omega
theorem reachN_le (l : List UInt8) (n : Int) : reachN l n ≤ l.length := by
  have := szs_take_le (parts isEnd l) n.toNat
  rw [szs_parts] at this
  exact this
theorem szs_prefix {p q : List (List UInt8 × Bool)} (h : p <+: q) : szs p ≤ szs q := by
  obtain ⟨r, rfl⟩ := h
  simp [szs]

set_option maxRecDepth 100000 in
set_option maxHeartbeats 2000000 in
theorem reach_any (s : ByteArray) (n : Int) (w : World) (hs : s.size ≤ 1073741824) (hn0 : -9223372036854775808 ≤ n) (hn1 : n ≤ 9223372036854775807) :
    Calls Try.prog 18 #[.string s, .int .i64 n] w fun e w' => e = .returned (.int .i64 (reachN s.data.toList n)) ∧ Below w.heap.size w w' := by
  have hpl : szs (parts isEnd s.data.toList) ≤ 1073741824 := by rw [szs_parts]; exact hs
  have hplen : (parts isEnd s.data.toList).length ≤ 1073741824 := Nat.le_trans (parts_len _ _) hs
  refine (callsIn_wide (n := 3)).1 ?_
  refine callsIn_of_wp_marks Try.func18 rfl trivial ?_ rfl
  simp only [Try.ntmps18, List.size_toArray, List.length_cons, List.length_nil, Nat.reduceAdd, Nat.reduceSub, Array.replicate_succ, Array.replicate_zero, List.push_toArray, List.append_toArray, List.nil_append, List.cons_append]
  gi_wp2_with (refine ⟨trivial, ?_⟩; gi_at_call 17; refine (callsIn_wide.2 (eachLine_any _ _)).mono ?_; rintro e w' ⟨rfl, rfl⟩)
  have bN := (((Boxed.new w 3 (.int .i64 n)).alloc (.cells #[.int .i64 0] 3)).alloc (.cells #[.func (.func 26) #[] #[]] 47)).alloc (.cells #[.string s] 9)
  have bZ := ((Boxed.new (w.alloc (.cells #[.int .i64 n] 3)) 3 (.int .i64 0)).alloc (.cells #[.func (.func 26) #[] #[]] 47)).alloc (.cells #[.string s] 9)
  have bP := (Boxed.new ((w.alloc (.cells #[.int .i64 n] 3)).alloc (.cells #[.int .i64 0] 3)) 47 (.func (.func 26) #[] #[])).alloc (.cells #[.string s] 9)
  have bS := Boxed.new (((w.alloc (.cells #[.int .i64 n] 3)).alloc (.cells #[.int .i64 0] 3)).alloc (.cells #[.func (.func 26) #[] #[]] 47)) 9 (.string s)
  have hB0 : Below w.heap.size w ((((w.alloc (.cells #[.int .i64 n] 3)).alloc (.cells #[.int .i64 0] 3)).alloc (.cells #[.func (.func 26) #[] #[]] 47)).alloc (.cells #[.string s] 9)) :=
    ((((Below.refl _ w).alloc (Nat.le_refl _) _).alloc (by simp) _).alloc (by simp; omega) _).alloc (by simp; omega) _
  rw [World.size_alloc] at bZ
  rw [World.size_alloc, World.size_alloc] at bP
  rw [World.size_alloc, World.size_alloc, World.size_alloc] at bS
  have hsz : ((((w.alloc (.cells #[.int .i64 n] 3)).alloc (.cells #[.int .i64 0] 3)).alloc (.cells #[.func (.func 26) #[] #[]] 47)).alloc (.cells #[.string s] 9)).heap.size = w.heap.size + 4 := by simp
  generalize ((((w.alloc (.cells #[.int .i64 n] 3)).alloc (.cells #[.int .i64 0] 3)).alloc (.cells #[.func (.func 26) #[] #[]] 47)).alloc (.cells #[.string s] 9)) = W0 at *
  refine Rng.range (gf := 29) (lb := #[.pointer (some ⟨w.heap.size + 3, 0, none⟩), .pointer (some ⟨w.heap.size + 2, 0, none⟩)]) rfl (enters_of Try.func29 (by kernel_rfl) rfl)
    (lines_itr (w.heap.size + 3) (w.heap.size + 2) s hs) (fun _ => rfl)
    (fun N pre W => Boxed W w.heap.size 3 (.int .i64 (n - pre.length)) ∧ Boxed W (w.heap.size + 1) 3 (.int .i64 (szs pre)) ∧ RdB (w.heap.size + 3) (w.heap.size + 2) s 26 #[] W ∧ Below w.heap.size w W ∧ (pre = [] ∨ (pre.length : Int) ≤ n))
    (fun N c pre W => (∃ q : List (List UInt8 × Bool), Boxed W (w.heap.size + 1) 3 (.int .i64 (szs q)) ∧ c = .exit 0 ∧ (∃ x, pre = q ++ [x]) ∧ n ≤ q.length ∧ (q = [] ∨ (q.length : Int) ≤ n)) ∧ Below w.heap.size w W)
    (fun N => OwnFrom.and (Own.from (boxed_own _ _ (fun pre : List (List UInt8 × Bool) => .int .i64 (n - pre.length))) _) (OwnFrom.and (Own.from (boxed_own _ _ (fun pre => .int .i64 (szs pre))) _) (OwnFrom.and (OwnFrom.and (Own.from (boxed_own _ _ (fun _ => .string s)) _) (Own.from (boxed_own _ _ (fun _ => .func (.func 26) #[] #[])) _)) (OwnFrom.and (ownFrom_below (Nat.le_refl _) (by omega)) (ownFrom_pure _ _)))))
    (fun N c => OwnFrom.and (fun st X Y row ⟨q, h1, h2⟩ hg hr => ⟨q, boxed_own (w.heap.size + 1) 3 (fun _ : Unit => .int .i64 (szs q)) () X Y row h1 hg (fun r e => (hr r e).2), h2⟩) (ownFrom_below (Nat.le_refl _) (by omega)))
    (fun _ _ _ h => h.2.2.1)
    (fun N => ⟨by simpa using bN, bZ, ⟨bS, bP⟩, hB0, .inl rfl⟩)
    (fun x => { tmps := #[.string s, .int .i64 n, undef, .pointer (some ⟨w.heap.size, 0, none⟩), .int .i64 0, .pointer (some ⟨w.heap.size + 1, 0, none⟩), .string (bt x.1), .bool x.2, .string s, itv (w.heap.size + 3) (w.heap.size + 2), .string (bt x.1), .bool x.2, undef, undef, undef, undef, undef, undef, undef, undef, undef, undef, undef, undef], defers := [] }) ?assign ?body ?done ?stop
  case assign =>
    intro m l x W K hK
    simp only [enc]
    gi_wp2
    exact hK
  case body =>
    rintro m l N pre ⟨x, b⟩ W ⟨hN, hZ, hR, hB, hnn⟩ hpre hN1 hN2
    rw [hsz] at hN1
    have hc1 := hN.cell
    have hc2 := hZ.cell
    have hf1 := hN.frozen
    have hf2 := hZ.frozen
    have hle := szs_prefix hpre
    rw [szs_snoc] at hle
    have hlen := hpre.length_le
    simp at hlen
    have hbs : (bt x).size = x.length := rfl
    have hxx : x.length ≤ sz (x, b) := by unfold sz; simp
    by_cases hpos : n - (pre.length : Int) ≤ 0
    · gi_wp2
      exact ⟨Rng.Stays.refl _ _ _, ⟨pre, hZ, rfl, ⟨_, rfl⟩, by omega, hnn⟩, hB⟩
    · have hpos' : ¬ n - (pre.length : Int) ≤ 0 := hpos
      have hpos2 : (0 : Int) < n - (pre.length : Int) := by omega
      have eN : n - ((pre ++ [(x, b)]).length : Int) = n - (pre.length : Int) - 1 := by simp; omega
      cases b
      · have eZ : ((szs (pre ++ [(x, false)]) : Nat) : Int) = (szs pre : Int) + (x.length : Int) := by rw [szs_snoc]; simp [sz]
        gi_wp2
        refine ⟨(Rng.Stays.set _ _ _ (by omega)).trans (Rng.Stays.set _ _ _ (by omega)), ?_, ?_, ⟨(hR.1.other (by omega) _).other (by omega) _, (hR.2.other (by omega) _).other (by omega) _⟩, (hB.setCell (p := ⟨w.heap.size, 0, none⟩) (Nat.le_refl _) _).setCell (p := ⟨w.heap.size + 1, 0, none⟩) (Nat.le_succ _) _, .inr (by simp; omega)⟩
        · rw [eN]; exact (hN.set _).other (by omega) _
        · rw [eZ]; exact (hZ.other (by omega) _).set _
      · have eZ : ((szs (pre ++ [(x, true)]) : Nat) : Int) = (szs pre : Int) + (x.length : Int) + 1 := by rw [szs_snoc]; simp [sz]; omega
        gi_wp2
        refine ⟨(Rng.Stays.set _ _ _ (by omega)).trans ((Rng.Stays.set _ _ _ (by omega)).trans (Rng.Stays.set _ _ _ (by omega))), ?_, ?_, ⟨((hR.1.other (by omega) _).other (by omega) _).other (by omega) _, ((hR.2.other (by omega) _).other (by omega) _).other (by omega) _⟩, ((hB.setCell (p := ⟨w.heap.size, 0, none⟩) (Nat.le_refl _) _).setCell (p := ⟨w.heap.size + 1, 0, none⟩) (Nat.le_succ _) _).setCell (p := ⟨w.heap.size + 1, 0, none⟩) (Nat.le_succ _) _, .inr (by simp; omega)⟩
        · rw [eN]; exact ((hN.set _).other (by omega) _).other (by omega) _
        · rw [eZ]; exact ((hZ.other (by omega) _).set _).set _
  case done =>
    rintro N W _ ⟨hN, hZ, hR, hB, hnn⟩ hD
    have hc := hZ.cell
    have he : reachN s.data.toList n = szs (parts isEnd s.data.toList) := by
      unfold reachN
      rw [List.take_of_length_le]
      rcases hnn with h | h
      · rw [h]; simp
      · omega
    gi_wp2
    refine ⟨by simp, .inl ⟨_, _, rfl, run_takeDeferred hD, ?_⟩⟩
    exact ⟨_, results_tmp (fn := Try.f18) (t := 4) rfl _ _ _, by rw [he]; rfl, hB.trans (belowK_b (w := w) (Nat.le_refl _) _ _ _ _ (by omega) hD rfl rfl)⟩
  case stop =>
    rintro N c pre W _ hpre ⟨⟨q, hZ, rfl, ⟨x, rfl⟩, hq1, hq2⟩, hB⟩ hD
    have hc := hZ.cell
    have he : reachN s.data.toList n = szs q := by
      unfold reachN
      obtain ⟨r, hr⟩ := hpre
      rw [← hr, List.append_assoc]
      rcases hq2 with rfl | h
      · have : n.toNat = 0 := by simp at hq1; omega
        rw [this]; rfl
      · rw [show n.toNat = q.length by omega, List.take_left]
    gi_wp2
    refine ⟨by simp, .inl ⟨_, _, rfl, run_takeDeferred hD, ?_⟩⟩
    exact ⟨_, results_tmp (fn := Try.f18) (t := 4) rfl _ _ _, by rw [he]; rfl, hB.trans (belowK_b (w := w) (Nat.le_refl _) _ _ _ _ (by omega) hD rfl rfl)⟩

set_option maxRecDepth 100000 in
set_option maxHeartbeats 1000000 in
theorem head_any (s : ByteArray) (n : Int) (w : World) (hs : s.size ≤ 1073741824) (hn0 : -9223372036854775808 ≤ n) (hn1 : n ≤ 9223372036854775807) :
    Calls Try.prog 10 #[.string s, .int .i64 n] w fun e w' => e = .returned (.string (bt (s.data.toList.take (reachN s.data.toList n)))) ∧ Below w.heap.size w w' := by
  have hle : reachN s.data.toList n ≤ s.size := reachN_le _ _
  have e : bt (s.data.toList.take (reachN s.data.toList n)) = s.extract 0 (reachN s.data.toList n) := by rw [bt_extract]; simp
  rw [e]
  have HC := hide (reach_any s n w hs hn0 hn1)
  generalize reachN s.data.toList n = r at *
  go_enter Try.func10, Try.ntmps10
  go_wp2_with fail
  refine (unhide HC).mono ?_
  rintro e w' ⟨rfl, hB⟩
  go_wp2_with fail
  go_ret
  exact ⟨rfl, hB⟩

set_option maxRecDepth 100000 in
set_option maxHeartbeats 1000000 in
theorem within_any (s : ByteArray) (n : Int) (w : World) (hs : s.size ≤ 1073741824) (hn0 : -9223372036854775808 ≤ n) (hn1 : n ≤ 9223372036854775807) :
    Calls Try.prog 19 #[.string s, .int .i64 n] w fun e w' => e = .returned (.int .i64 (min n.toNat s.size : Nat)) ∧ w' = w := by
  obtain ⟨r, hr⟩ : ∃ r : Nat, r = min n.toNat s.size := ⟨_, rfl⟩
  rw [← hr]
  have e1 : n < 0 → (0 : Int) = r := fun h => by omega
  have e2 : 0 ≤ n → n ≤ s.size → n = r := fun h h' => by omega
  have e3 : (s.size : Int) < n → (s.size : Int) = r := fun h => by omega
  clear hr
  by_cases h1 : n < 0
  · have h2 := e1 h1
    clear e1 e2 e3
    go_enter Try.func19, Try.ntmps19
    go_wp2
    go_ret
    exact ⟨by rw [← h2]; rfl, rfl⟩
  · by_cases h2 : n ≤ s.size
    · have h3 := e2 (by omega) h2
      clear e1 e2 e3
      have h4 : 0 ≤ n := by omega
      have h5 : ¬ (s.size : Int) < n := by omega
      go_enter Try.func19, Try.ntmps19
      go_wp2
      all_goals go_ret
      all_goals refine ⟨?_, rfl⟩
      all_goals rw [← h3]
      all_goals rfl
    · have h3 := e3 (by omega)
      clear e1 e2 e3
      have h4 : 0 ≤ n := by omega
      have h5 : (s.size : Int) < n := by omega
      go_enter Try.func19, Try.ntmps19
      go_wp2
      all_goals go_ret
      all_goals refine ⟨?_, rfl⟩
      all_goals rw [← h3]
      all_goals rfl

set_option maxRecDepth 100000 in
set_option maxHeartbeats 1000000 in
theorem headBytes_any (s : ByteArray) (n : Int) (w : World) (hs : s.size ≤ 1073741824) (hn0 : -9223372036854775808 ≤ n) (hn1 : n ≤ 9223372036854775807) :
    Calls Try.prog 12 #[.string s, .int .i64 n] w fun e w' => e = .returned (.string (bt (s.data.toList.take (min n.toNat s.size)))) ∧ w' = w := by
  have hle : min n.toNat s.size ≤ s.size := by omega
  have e : bt (s.data.toList.take (min n.toNat s.size)) = s.extract 0 (min n.toNat s.size) := by rw [bt_extract]; simp
  rw [e]
  have HC := hide (within_any s n w hs hn0 hn1)
  generalize min n.toNat s.size = r at *
  go_enter Try.func12, Try.ntmps12
  go_wp2_with fail
  refine (unhide HC).mono ?_
  rintro e w' ⟨rfl, rfl⟩
  go_wp2_with fail
  go_ret
  exact ⟨rfl, rfl⟩
theorem bt_drop (s : ByteArray) (i : Nat) : bt (s.data.toList.drop i) = s.extract i s.size := by
  rw [bt_extract, List.take_of_length_le (by rw [List.length_drop]; exact Nat.le_refl _)]
set_option maxRecDepth 100000 in
set_option maxHeartbeats 1000000 in
theorem tailBytes_any (s : ByteArray) (n : Int) (w : World) (hs : s.size ≤ 1073741824) (hn0 : -9223372036854775808 ≤ n) (hn1 : n ≤ 9223372036854775807) :
    Calls Try.prog 13 #[.string s, .int .i64 n] w fun e w' => e = .returned (.string (bt (s.data.toList.drop (s.size - min n.toNat s.size)))) ∧ w' = w := by
  have hle : min n.toNat s.size ≤ s.size := by omega
  rw [bt_drop]
  have HC := hide (within_any s n w hs hn0 hn1)
  generalize min n.toNat s.size = r at *
  obtain ⟨k, hk⟩ : ∃ k : Nat, k = s.size - r := ⟨_, rfl⟩
  have hk2 : (s.size : Int) - (r : Int) = (k : Int) := by omega
  have hk3 : k ≤ s.size := by omega
  rw [← hk]
  clear hk
  go_enter Try.func13, Try.ntmps13
  go_wp2_with fail
  refine (unhide HC).mono ?_
  rintro e w' ⟨rfl, rfl⟩
  go_wp2_with fail
  go_ret
  exact ⟨rfl, rfl⟩

set_option maxRecDepth 100000 in
set_option maxHeartbeats 2000000 in
theorem tail_any (s : ByteArray) (n : Int) (w : World) (hs : s.size ≤ 1073741824) (hn0 : -9223372036854775808 ≤ n) (hn1 : n ≤ 9223372036854775807) :
    Calls Try.prog 11 #[.string s, .int .i64 n] w fun e w' => e = .returned (.string (bt (s.data.toList.drop (reachN s.data.toList (((parts isEnd s.data.toList).length : Int) - max n 0))))) ∧ Below w.heap.size w w' := by
  have hplen : (parts isEnd s.data.toList).length ≤ 1073741824 := Nat.le_trans (parts_len _ _) hs
  have hle : reachN s.data.toList (((parts isEnd s.data.toList).length : Int) - max n 0) ≤ s.size := reachN_le _ _
  rw [bt_drop]
  obtain ⟨mx, hmx⟩ : ∃ mx : Int, mx = max n 0 := ⟨_, rfl⟩
  rw [← hmx] at hle ⊢
  have h2 : 0 ≤ mx := by omega
  have h3 : mx ≤ 9223372036854775807 := by omega
  have HC : Hid (∀ W', Calls Try.prog 18 #[.string s, .int .i64 (((parts isEnd s.data.toList).length : Int) - mx)] W' fun e w' => e = .returned (.int .i64 (reachN s.data.toList (((parts isEnd s.data.toList).length : Int) - mx))) ∧ Below W'.heap.size W' w') := fun W' => reach_any s _ W' hs (by omega) (by omega)
  generalize reachN s.data.toList (((parts isEnd s.data.toList).length : Int) - mx) = r at *
  refine (callsIn_wide (n := 3)).1 ?_
  refine callsIn_of_wp_marks Try.func11 rfl trivial ?_ rfl
  simp only [Try.ntmps11, List.size_toArray, List.length_cons, List.length_nil, Nat.reduceAdd, Nat.reduceSub, Array.replicate_succ, Array.replicate_zero, List.push_toArray, List.append_toArray, List.nil_append, List.cons_append]
  gi_wp2_with (refine ⟨trivial, ?_⟩; gi_at_call 17; refine (callsIn_wide.2 (eachLine_any _ _)).mono ?_; rintro e w' ⟨rfl, rfl⟩)
  have bN := ((Boxed.new w 3 (.int .i64 0)).alloc (.cells #[.func (.func 26) #[] #[]] 47)).alloc (.cells #[.string s] 9)
  have bP := (Boxed.new (w.alloc (.cells #[.int .i64 0] 3)) 47 (.func (.func 26) #[] #[])).alloc (.cells #[.string s] 9)
  have bS := Boxed.new ((w.alloc (.cells #[.int .i64 0] 3)).alloc (.cells #[.func (.func 26) #[] #[]] 47)) 9 (.string s)
  have hB0 : Below w.heap.size w (((w.alloc (.cells #[.int .i64 0] 3)).alloc (.cells #[.func (.func 26) #[] #[]] 47)).alloc (.cells #[.string s] 9)) :=
    (((Below.refl _ w).alloc (Nat.le_refl _) _).alloc (by simp) _).alloc (by simp; omega) _
  rw [World.size_alloc] at bP
  rw [World.size_alloc, World.size_alloc] at bS
  have hsz : (((w.alloc (.cells #[.int .i64 0] 3)).alloc (.cells #[.func (.func 26) #[] #[]] 47)).alloc (.cells #[.string s] 9)).heap.size = w.heap.size + 3 := by simp
  generalize (((w.alloc (.cells #[.int .i64 0] 3)).alloc (.cells #[.func (.func 26) #[] #[]] 47)).alloc (.cells #[.string s] 9)) = W0 at *
  refine Rng.range (gf := 29) (lb := #[.pointer (some ⟨w.heap.size + 2, 0, none⟩), .pointer (some ⟨w.heap.size + 1, 0, none⟩)]) rfl (enters_of Try.func29 (by kernel_rfl) rfl)
    (lines_itr (w.heap.size + 2) (w.heap.size + 1) s hs) (fun _ => rfl)
    (fun N pre W => Boxed W w.heap.size 3 (.int .i64 pre.length) ∧ RdB (w.heap.size + 2) (w.heap.size + 1) s 26 #[] W ∧ Below w.heap.size w W)
    (fun N c pre W => False)
    (fun N => OwnFrom.and (Own.from (boxed_own _ _ (fun pre : List (List UInt8 × Bool) => .int .i64 pre.length)) _) (OwnFrom.and (OwnFrom.and (Own.from (boxed_own _ _ (fun _ => .string s)) _) (Own.from (boxed_own _ _ (fun _ => .func (.func 26) #[] #[])) _)) (ownFrom_below (Nat.le_refl _) (by omega))))
    (fun _ _ _ _ _ _ hs _ _ => hs)
    (fun _ _ _ h => h.2.1)
    (fun N => ⟨bN, ⟨bS, bP⟩, hB0⟩)
    (fun x => { tmps := #[.string s, .int .i64 n, undef, undef, .string { data := #[] }, .pointer (some ⟨w.heap.size, 0, none⟩), .string s, itv (w.heap.size + 2) (w.heap.size + 1), .string (bt x.1), .bool x.2, undef, undef, undef, undef, undef, undef, undef, undef, undef, undef], defers := [] }) ?assign ?body ?done ?stop
  case assign =>
    intro m l x W K hK
    simp only [enc]
    gi_wp2
    simpa using hK
  case body =>
    rintro m l N pre x W ⟨hN, hR, hB⟩ hpre hN1 hN2
    rw [hsz] at hN1
    have hc1 := hN.cell
    have hf1 := hN.frozen
    have hlen := hpre.length_le
    simp at hlen
    have eN : ((pre ++ [x]).length : Int) = (pre.length : Int) + 1 := by simp
    gi_wp2
    refine ⟨Rng.Stays.set _ _ _ (by omega), ?_, ⟨hR.1.other (by omega) _, hR.2.other (by omega) _⟩, hB.setCell (p := ⟨w.heap.size, 0, none⟩) (Nat.le_refl _) _⟩
    rw [eN]; exact hN.set _
  case done =>
    rintro N W _ ⟨hN, hR, hB⟩ hD
    have hc := hN.cell
    have hDlt : W0.heap.size < W.heap.size := (Array.getElem?_eq_some_iff.1 hD).1
    have hk : Hid (∀ w' : World, Below W.heap.size W w' → w'.heap[W0.heap.size]? = some (.deferred (some [])) ∧ Below w.heap.size w w') := fun w' h => ⟨(h.block _ hDlt).trans hD, hB.trans (h.mono hB.size)⟩
    generalize (parts isEnd s.data.toList).length = all at *
    have HD := hide hD
    have hmx2 : (n < 0 ∧ mx = 0) ∨ (0 ≤ n ∧ mx = n) := by omega
    clear hD hmx
    rcases hmx2 with ⟨hneg, hm0⟩ | ⟨hneg, hm0⟩
    · subst hm0
      simp only [Int.sub_zero] at HC
      gi_wp2_with (refine ⟨trivial, ?_⟩; gi_at_call 18; refine (callsIn_wide.2 (unhide HC _)).mono ?_; rintro e w' ⟨rfl, hB2⟩)
      obtain ⟨hD2, hB3⟩ := unhide hk _ hB2
      rw [hsz] at hD2
      refine ⟨by simp, .inl ⟨_, _, rfl, run_takeDeferred hD2, ?_⟩⟩
      exact ⟨_, results_tmp (fn := Try.f11) (t := 4) rfl _ _ _, rfl, hB3.trans (belowK_b (w := w) (Nat.le_refl _) _ _ _ _ (by omega) hD2 rfl rfl)⟩
    · subst hm0
      gi_wp2_with (refine ⟨trivial, ?_⟩; gi_at_call 18; refine (callsIn_wide.2 (unhide HC _)).mono ?_; rintro e w' ⟨rfl, hB2⟩)
      obtain ⟨hD2, hB3⟩ := unhide hk _ hB2
      rw [hsz] at hD2
      refine ⟨by simp, .inl ⟨_, _, rfl, run_takeDeferred hD2, ?_⟩⟩
      exact ⟨_, results_tmp (fn := Try.f11) (t := 4) rfl _ _ _, rfl, hB3.trans (belowK_b (w := w) (Nat.le_refl _) _ _ _ _ (by omega) hD2 rfl rfl)⟩
  case stop =>
    rintro N c pre W _ _ h _
    exact h.elim

end Go.Proofs.Ytbamldjifempfab.Ln
