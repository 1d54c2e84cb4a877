/- Pairs of rows: an iterator. -/
import Derived.Test.YtjkajhnnoecjbaaDoorVwOrder
import Derived.Test.YtjkajhnnoecjbaaDoorVwRng
import Derived.Stop.RegionWithIn
import Derived.OwnWalkIn
set_option linter.unusedVariables false
namespace Go.Proofs.YtjkajhnnoecjbaaDoor.Vw
open Go.RowKit Go.Shelf Cu
open Pa (Tx tot)

def rv (x : Rw) : Value := .agg #[.string (bt x.1), .string (bt x.2)]
def encP (p : Rw × Rw) : Array Value := #[rv p.1, rv p.2]

/-! ### the runs of a key -/
def runB (B : List Rw) (x : Rw) : List Rw := (B.drop (below x.1 B)).takeWhile fun y => decide (y.1 = x.1)
theorem tw_spec {α : Type} (p : α → Bool) : ∀ (l : List α), (∀ t (h : t < (l.takeWhile p).length), ∃ h2 : t < l.length, (l.takeWhile p)[t] = l[t] ∧ p l[t] = true) ∧ (∀ h : (l.takeWhile p).length < l.length, p l[(l.takeWhile p).length] = false)
  | [] => by simp
  | x :: l => by
    obtain ⟨h1, h2⟩ := tw_spec p l
    by_cases hx : p x = true
    · have e : (x :: l).takeWhile p = x :: l.takeWhile p := List.takeWhile_cons_of_pos hx
      refine ⟨fun t h => ?_, fun h => ?_⟩
      · cases t with
        | zero => exact ⟨by simp, by simp [e], by simpa using hx⟩
        | succ t =>
          rw [e] at h
          obtain ⟨g1, g2, g3⟩ := h1 t (by simpa using h)
          exact ⟨by simpa using g1, by simp only [e, List.getElem_cons_succ]; exact g2, by simpa using g3⟩
      · have h' : (l.takeWhile p).length < l.length := by rw [e] at h; simpa using h
        have := h2 h'
        simp only [e, List.length_cons, List.getElem_cons_succ]
        exact this
    · have e : (x :: l).takeWhile p = [] := List.takeWhile_cons_of_neg hx
      refine ⟨fun t h => by rw [e] at h; simp at h, fun h => ?_⟩
      simp only [e, List.length_nil, List.getElem_cons_zero]
      simpa using hx
theorem run_at (B : List Rw) (x : Rw) (t : Nat) (h : t < (runB B x).length) : ∃ h2 : below x.1 B + t < B.length, (runB B x)[t] = B[below x.1 B + t] ∧ (B[below x.1 B + t]).1 = x.1 := by
  obtain ⟨h1, h2, h3⟩ := (tw_spec (fun y : Rw => decide (y.1 = x.1)) (B.drop (below x.1 B))).1 t h
  rw [List.length_drop] at h1
  refine ⟨by omega, ?_, ?_⟩
  · unfold runB
    rw [h2, List.getElem_drop]
  · rw [List.getElem_drop] at h3
    simpa using h3
theorem run_end (B : List Rw) (x : Rw) (h : below x.1 B + (runB B x).length < B.length) : ¬ (B[below x.1 B + (runB B x).length]).1 = x.1 := by
  have := (tw_spec (fun y : Rw => decide (y.1 = x.1)) (B.drop (below x.1 B))).2 (by show (runB B x).length < _; rw [List.length_drop]; omega)
  rw [List.getElem_drop] at this
  exact of_decide_eq_false this
theorem run_le (B : List Rw) (x : Rw) : below x.1 B + (runB B x).length ≤ B.length := by
  have h1 : (runB B x).length ≤ (B.drop (below x.1 B)).length := (List.takeWhile_prefix _).length_le
  have h2 := below_le x.1 B
  rw [List.length_drop] at h1
  omega
theorem pairs_take (A B : List Rw) (hs : sortedP B = true) (k : Nat) (h : k < A.length) : pairsP (A.take (k + 1)) B = pairsP (A.take k) B ++ (runB B A[k]).map fun y => (A[k], y) := by
  rw [List.take_succ_eq_append_getElem h]
  unfold pairsP
  rw [List.flatMap_append]
  simp only [List.flatMap_cons, List.flatMap_nil, List.append_nil]
  rw [run_filter B A[k].1 hs]
  rfl
theorem pairs_prefix (A B : List Rw) (k : Nat) : pairsP (A.take k) B <+: pairsP A B := by
  refine ⟨pairsP (A.drop k) B, ?_⟩
  unfold pairsP
  rw [← List.flatMap_append, List.take_append_drop]
theorem sorted_get : ∀ (A : List Rw) (k : Nat) (h : k + 1 < A.length), sortedP A = true → ¬ (A[k + 1]).1 < (A[k]'(by omega)).1 := fun A k h hs => (sorted_iff A).1 hs k h
theorem less_iff : ∀ a b : Bs, Op.bytesLess a b = decide (a < b)
  | _, [] => by simp [Op.bytesLess]
  | [], _ :: _ => by simp [Op.bytesLess]
  | a :: x, b :: y => by
    rw [Op.bytesLess, less_iff x y]
    by_cases h1 : a < b
    · simp [h1, List.cons_lt_cons_iff]
    · by_cases h2 : a = b
      · subst h2; simp [h1]
      · have hb : (a == b) = false := by simp [h2]
        rw [hb]
        simp [h1, h2, List.cons_lt_cons_iff]
theorem less_bt (a b : Bs) : Op.bytesLess (bt a).toList (bt b).toList = decide (a < b) := by
  rw [ByteArray.toList_eq, ByteArray.toList_eq]
  exact less_iff a b
theorem bt_inj {a b : Bs} : (bt a = bt b) ↔ a = b := ⟨fun h => by have := congrArg bs h; exact this, fun h => by rw [h]⟩

set_option maxHeartbeats 400000 in
theorem pairs_any (a b : Option Addr) (n m ca cb : Nat) (w : World) :
    Calls Tryd.prog 69 #[.slice a n ca, .slice b m cb] w fun e w' => e = .returned (.func (.func 112) #[] #[.pointer (some ⟨w.heap.size, 0, none⟩), .pointer (some ⟨w.heap.size + 1, 0, none⟩)]) ∧ w' = (w.alloc (.cells #[.slice a n ca] 68)).alloc (.cells #[.slice b m cb] 68) := by
  have hmf : ∀ (fn : Fn) (first cap : Array Value) (w : World), (Instr.makeFunc fn first cap).run Tryd.prog w = .ok (.func fn first cap) w := fun _ _ _ _ => rfl
  go_enter Tryd.func69, Tryd.ntmps69
  go_wp2_with fail
  go_ret
  exact ⟨rfl, rfl⟩

/-- where the iterator stands: its own row lies at X -/
structure St (b0 : Nat) (J : List (Rw × Rw) → World → Prop) (pre : List (Rw × Rw)) (X : Nat) (x : Rw) (V : World) : Prop where
  j : J pre V
  size : b0 ≤ V.heap.size
  lo : b0 ≤ X
  row : V.heap[X]? = some (.cells #[.string (bt x.1), .string (bt x.2)] 76 (0, 0))
theorem St.lt {b0 X : Nat} {J : List (Rw × Rw) → World → Prop} {pre : List (Rw × Rw)} {x : Rw} {V : World} (h : St b0 J pre X x V) : X < V.heap.size := (Array.getElem?_eq_some_iff.1 h.row).1
theorem St.cells {b0 X : Nat} {J : List (Rw × Rw) → World → Prop} {pre : List (Rw × Rw)} {x : Rw} {V : World} (h : St b0 J pre X x V) : V.cell? ⟨X, 0, none⟩ = some (.string (bt x.1)) ∧ V.cell? ⟨X, 1, none⟩ = some (.string (bt x.2)) := by
  rw [Lib.cell_of_heap h.row, Lib.cell_of_heap h.row]; exact ⟨rfl, rfl⟩
theorem grown_drewN (V : World) (q : Nat) : V.grownBy (V.drewN q) none := ⟨rfl, rfl, rfl, Nat.le_refl _, fun _ _ _ => rfl⟩
theorem St.drewN {b0 X : Nat} {J : List (Rw × Rw) → World → Prop} {pre : List (Rw × Rw)} {x : Rw} {V : World} (h : St b0 J pre X x V) (hJ : OwnFrom b0 J) (q : Nat) : St b0 J pre X x (V.drewN q) :=
  ⟨hJ pre V _ none h.j (grown_drewN V q) (fun r e => by cases e), h.size, h.lo, h.row⟩
theorem St.new {b0 : Nat} {J : List (Rw × Rw) → World → Prop} {pre : List (Rw × Rw)} {x : Rw} {V : World} (hj : J pre V) (hb : b0 ≤ V.heap.size) (hJ : OwnFrom b0 J) :
    St b0 J pre V.heap.size x (V.alloc (.cells #[.string (bt x.1), .string (bt x.2)] 76)) :=
  ⟨hJ.alloc _ hj, by simp; omega, hb, heap_alloc_new V _⟩
theorem St.yield {b0 X : Nat} {J : List (Rw × Rw) → World → Prop} {KO : Obj → Prop} {pre pre' : List (Rw × Rw)} {x : Rw} {V V' : World} (h : St b0 J pre X x V) (hk : Rng.KeepsBut b0 KO V V') (hKT : ∀ cs f, ¬ KO (.cells cs 76 f)) (hj : J pre' V') : St b0 J pre' X x V' :=
  ⟨hj, Nat.le_trans h.size hk.1, h.lo, (hk.2 X h.lo h.lt (fun o ho => by rw [h.row] at ho; obtain rfl := Option.some.inj ho; exact hKT _ _)).trans h.row⟩

set_option maxRecDepth 100000 in
set_option maxHeartbeats 2000000 in
theorem pairs_itr (p q : Nat) (a b : Option Addr) (n m ca cb : Nat) (A B : List Rw) (hn : n ≤ 1048577) (hm : m ≤ 1048577) (hsb : sortedP B = true) (hsa : sortedP A = true) (rd : World → Prop)
    (hrd : ∀ W, rd W → Boxed W p 68 (.slice a n ca) ∧ Boxed W q 68 (.slice b m cb) ∧ Rr W a n A ∧ Rr W b m B) :
    Rng.Itr3 Tryd.prog 112 #[.pointer (some ⟨p, 0, none⟩), .pointer (some ⟨q, 0, none⟩)] encP (pairsP A B) rd 76 := by
  intro l J Jx KO W hJ hJx hKT hJr hY h0
  have hr0 := (hrd _ (hJr _ _ h0)).1.cell
  have hAl : A.length = n := ((hrd _ (hJr _ _ h0)).2.2.1).1
  have hBl : B.length = m := ((hrd _ (hJr _ _ h0)).2.2.2).1
  refine (callsIn_wide (n := 3)).1 ?_
  refine callsIn_of_wp Tryd.func112 rfl trivial ?_ rfl
  simp only [Tryd.ntmps112, List.size_toArray, List.length_cons, List.length_nil, Nat.reduceAdd, Nat.reduceSub, Array.replicate_succ, Array.replicate_zero, List.push_toArray, List.append_toArray, List.nil_append, List.cons_append]
  have HY := hide hY
  have HJ := hide hJ
  have HKT := hide hKT
  have HJr : Hid (∀ pre V, J pre V → Boxed V p 68 (.slice a n ca) ∧ Boxed V q 68 (.slice b m cb) ∧ Rr V a n A ∧ Rr V b m B) := fun pre V h => hrd V (hJr pre V h)
  clear hY hJr hJ hKT hrd hJx
  gi_wp2
  clear hr0
  gi_loopw [4, 10] (fun v4 v10 wr => ∃ (f k : Nat), v4 = .int .i64 f ∧ v10 = .int .i64 k ∧ k ≤ n ∧ f ≤ m ∧ Hid (∀ h : k < A.length, f ≤ below A[k].1 B) ∧ Hid (J (pairsP (A.take k) B) wr) ∧ W.heap.size ≤ wr.heap.size) (fun _ v10 _ => n - (intOf v10).toNat)
  case atStart => exact ⟨0, 0, rfl, rfl, Nat.zero_le _, Nat.zero_le _, fun h => Nat.zero_le _, h0, Nat.le_refl _⟩
  case round =>
    obtain ⟨f, k, rfl, rfl, hk, hf, hfb, hJw, hWs⟩ := hrel
    by_cases hlt : k < n
    · have hlt' : (k : Int) < (n : Int) := by omega
      obtain ⟨hb1, hb2, hRa, hRb⟩ := unhide HJr _ _ (unhide hJw)
      rcases hRa.2 with h0 | ⟨ba, rfl, hba, hca⟩
      · omega
      have q1 := (hca k (by omega)).1
      have q2 := (hca k (by omega)).2
      have hp1 := hb1.cell
      have hfb2 := hide (unhide hfb (by omega))
      have hpt := hide (pairs_take A B hsb k (by omega))
      have hkA : k < A.length := by omega
      have hnx : Hid (∀ h : k + 1 < A.length, below (A[k]'hkA).1 B ≤ below A[k + 1].1 B) := fun h => below_mono B _ _ hsb (sorted_get A k h hsa)
      have hS := hide (St.new (x := A[k]) (unhide hJw) hWs (unhide HJ))
      generalize A[k] = x at *
      obtain ⟨pre, hpre⟩ : ∃ pre, pre = pairsP (A.take k) B := ⟨_, rfl⟩
      rw [← hpre] at hS hpt
      have hpx : Hid (pre ++ (runB B x).map (fun y => (x, y)) <+: pairsP A B) := by
        show _ <+: _
        rw [← unhide hpt]
        exact pairs_prefix A B (k + 1)
      clear hca hfb hb1 hb2 hRa hRb hJw hpre hkA
      gi_wp2
      generalize wr.alloc (.cells #[.string (bt x.1), .string (bt x.2)] 76) = w2 at *
      generalize wr.heap.size = X at *
      gi_loopw [4] (fun v4 wq => ∃ f : Nat, v4 = .int .i64 f ∧ f ≤ below x.1 B ∧ Hid (St W.heap.size J pre X x wq)) (fun v4 _ => m - (intOf v4).toNat)
      case atStart => exact ⟨f, rfl, unhide hfb2, hS⟩
      case round =>
        clear hS hfb2 hf q1 q2 hp1
        obtain ⟨f, rfl, hfb, hS⟩ := hrel
        have hbl := below_le x.1 B
        obtain ⟨hb1, hb2, hRa, hRb⟩ := unhide HJr _ _ (unhide hS).j
        have hp2 := hb2.cell
        have hx0 := (unhide hS).cells.1
        have hxl := (unhide hS).lt
        by_cases hfm : f < m
        · have hfm' : (f : Int) < (m : Int) := by omega
          rcases hRb.2 with h0 | ⟨b1, rfl, hbb, hcb⟩
          · omega
          have q3 := (hcb f (by omega)).1
          have hle := less_iff (B[f]'(by omega)).1 x.1
          by_cases hky : (B[f]'(by omega)).1 < x.1
          · have hfb' : f + 1 ≤ below x.1 B := by
              rcases Nat.lt_or_ge f (below x.1 B) with h | h
              · exact h
              · have e : below x.1 B = f := by omega
                have := below_at x.1 B (by omega)
                simp only [e] at this
                exact absurd hky this
            rw [decide_eq_true hky] at hle
            generalize B[f] = y at *
            clear hcb hb1 hb2 hRa hRb
            gi_wp2
            refine wpIn_wide.2 ?_
            go_quiet (fail)
            gi_wp2
            go_roundw
            case rel => exact ⟨f + 1, by go_num, hfb', (unhide hS).drewN (unhide HJ) _⟩
            case measure => simp [intOf]; omega
          · have hfe : f = below x.1 B := by
              rcases Nat.lt_or_ge f (below x.1 B) with h | h
              · exact absurd (below_lt x.1 B f (by omega) h) hky
              · omega
            have HFE := hide hfe
            clear hfe
            rw [decide_eq_false hky] at hle
            generalize B[f] = y at *
            clear hcb hb1 hb2 hRa hRb
            gi_wp2
            refine wpIn_wide.2 ?_
            go_quiet (fail)
            gi_wp2
            have HST0 := hide ((unhide hS).drewN (unhide HJ) nq)
            clear hS hp2 hx0 hxl q3 hle hky hbl hfb
            gi_loopw [7] (fun v7 wq => ∃ t : Nat, v7 = .int .i64 ((f + t : Nat) : Int) ∧ t ≤ (runB B x).length ∧ Hid (St W.heap.size J (pre ++ ((runB B x).take t).map (fun y => (x, y))) X x wq)) (fun v7 _ => m + 1 - (intOf v7).toNat)
            case atStart => exact ⟨0, by go_num, Nat.zero_le _, by rw [List.take_zero]; simpa using HST0⟩
            case round =>
              clear HST0
              obtain ⟨t, rfl, htr, hS⟩ := hrel
              obtain ⟨hb1, hb2, hRa, hRb⟩ := unhide HJr _ _ (unhide hS).j
              have hp2 := hb2.cell
              have hx0 := (unhide hS).cells.1
              have hx1 := (unhide hS).cells.2
              have hxl := (unhide hS).lt
              have hrl := run_le B x
              rw [← unhide HFE, hBl] at hrl
              by_cases ht : t < (runB B x).length
              · obtain ⟨hti, hrt, hrk⟩ := run_at B x t ht
                have hpt1 : Hid (pre ++ ((runB B x).take (t + 1)).map (fun y => (x, y)) = (pre ++ ((runB B x).take t).map (fun y => (x, y))) ++ [(x, (runB B x)[t])]) := by
                  show _ = _
                  rw [List.take_succ_eq_append_getElem ht, List.map_append, List.append_assoc]; rfl
                rw [hrt] at hpt1
                simp only [← unhide HFE] at hti hrk hpt1
                have him : f + t < m := by omega
                have him' : ((f + t : Nat) : Int) < (m : Int) := by omega
                have hi0' : (0 : Int) ≤ ((f + t : Nat) : Int) := by omega
                rcases hRb.2 with h0 | ⟨bb, hbe, hbb, hcb⟩
                · omega
                have q3 := (hcb (f + t) hti).1
                have q4 := (hcb (f + t) hti).2
                have hye : ((B[f + t]'hti).1 == x.1) = true := by rw [hrk]; exact beq_self_eq_true _
                have hpf : Hid ((pre ++ ((runB B x).take t).map (fun y => (x, y))) ++ [(x, B[f + t]'hti)] <+: pairsP A B) := by
                  show _ <+: _
                  rw [← unhide hpt1]
                  refine List.IsPrefix.trans ?_ (unhide hpx)
                  exact (List.prefix_append_right_inj pre).2 ((List.take_prefix _ _).map _)
                generalize B[f + t]'hti = y at *
                obtain ⟨pr, hpr⟩ : ∃ pr, pr = pre ++ ((runB B x).take t).map (fun y => (x, y)) := ⟨_, rfl⟩
                rw [← hpr] at hS hpt1 hpf
                have hmeas : Hid (f + (t + 1) = f + t + 1) := by show _ = _; omega
                have hbd : f + t < m := him
                generalize hi : f + t = i at *
                have HI := hide hi
                obtain rfl : b1 = bb := by simpa using hbe
                clear hbe
                clear hcb hb1 hb2 hRa hRb hrk hrt hpr hi
                gi_wp2
                refine wpIn_wide.2 ?_
                go_quiet (fail)
                gi_wp2
                have hS3 := hide ((unhide hS).drewN (unhide HJ) (nq + 1))
                obtain ⟨fn, tmps, assign, body, hy, hR⟩ := unhide HY 2 pr (x, y) _ (unhide hS3).size (unhide hS3).j (unhide hpf)
                have hR2 := hR.mono (R' := fun e W' => ∃ r : Bool, e = .returned (.bool r) ∧ Rng.KeepsBut W.heap.size KO (wr.drewN (nq + 1)) W' ∧ (if r then J (pr ++ [(x, y)]) W' else Jx (pr ++ [(x, y)]) W')) (fun e W' h => by
                  obtain ⟨h1, (⟨rfl, h3⟩ | ⟨rfl, h3⟩)⟩ := h
                  · exact ⟨true, rfl, h1, h3⟩
                  · exact ⟨false, rfl, h1, h3⟩)
                simp only [encP, rv] at hy
                clear hR
                gi_region_with (refine hR2.mono ?_; rintro e W3 ⟨r, rfl, h3⟩)
                all_goals (
                  (try simp only [Act.put, List.getElem_toArray, List.getElem_cons_zero, List.getElem_cons_succ, List.setIfInBounds_toArray, List.set_cons_zero, List.set_cons_succ])
                  obtain ⟨hkb, hj3⟩ := h3
                  cases r
                  · have hj4 : Hid (Jx (pr ++ [(x, y)]) W3) := by
                      show Jx _ _
                      simpa using hj3
                    clear hj3 hkb hR2 hy
                    gi_wp2
                    refine bodyPost_ret (results_none rfl _ _ _) rfl ?_
                    exact ⟨⟨_, rfl⟩, .inr ⟨_, unhide hpf, unhide hj4⟩⟩
                  · have hS5 := (unhide hS3).yield hkb (unhide HKT) (show J (pr ++ [(x, y)]) W3 by simpa using hj3)
                    rw [← unhide hpt1] at hS5
                    have hS5 := hide hS5
                    clear hj3 hkb hR2 hy
                    gi_wp2
                    go_roundw
                    case rel => exact ⟨t + 1, by rw [unhide hmeas]; go_num, by omega, hS5⟩
                    case measure => simp [intOf]; omega)
              · obtain rfl : t = (runB B x).length := by omega
                rw [List.take_length, ← unhide hpt] at hS
                by_cases him : f + (runB B x).length < m
                · have him' : ((f + (runB B x).length : Nat) : Int) < (m : Int) := by omega
                  have hne := run_end B x (by rw [← unhide HFE]; omega)
                  simp only [← unhide HFE] at hne
                  rcases hRb.2 with h0 | ⟨bb, hbe, hbb, hcb⟩
                  · omega
                  have q3 := (hcb (f + (runB B x).length) (by omega)).1
                  have hye : ((B[f + (runB B x).length]'(by omega)).1 == x.1) = false := by
                    rw [beq_eq_false_iff_ne]; exact hne
                  generalize B[f + (runB B x).length] = y at *
                  generalize hi : f + (runB B x).length = i at *
                  obtain rfl : b1 = bb := by simpa using hbe
                  clear hbe
                  clear hcb hb1 hb2 hRa hRb hne hi
                  gi_wp2
                  refine wpIn_wide.2 ?_
                  go_quiet (fail)
                  gi_wp2
                  go_roundw
                  case rel => exact ⟨f, k + 1, rfl, by go_num, by omega, by omega, fun h => by rw [unhide HFE]; exact unhide hnx h, ((unhide hS).drewN (unhide HJ) _).j, (unhide hS).size⟩
                  case measure => simp [intOf]; omega
                · have him' : ¬ ((f + (runB B x).length : Nat) : Int) < (m : Int) := by omega
                  generalize hi : f + (runB B x).length = i at *
                  clear hb1 hb2 hRa hRb hi
                  gi_wp2
                  refine wpIn_wide.2 ?_
                  go_quiet (fail)
                  gi_wp2
                  go_roundw
                  case rel => exact ⟨f, k + 1, rfl, by go_num, by omega, by omega, fun h => by rw [unhide HFE]; exact unhide hnx h, ((unhide hS).drewN (unhide HJ) _).j, (unhide hS).size⟩
                  case measure => simp [intOf]; omega
        · have hfe : f = below x.1 B := by omega
          have hfm' : ¬ (f : Int) < (m : Int) := by omega
          have hfle : f ≤ m := by omega
          have HFE := hide hfe
          clear hfe hb1 hb2 hRa hRb
          gi_wp2
          refine wpIn_wide.2 ?_
          go_quiet (fail)
          gi_wp2
          have HST0 := hide ((unhide hS).drewN (unhide HJ) nq)
          clear hS hp2 hx0 hxl hbl hfb
          gi_loopw [7] (fun v7 wq => ∃ t : Nat, v7 = .int .i64 ((f + t : Nat) : Int) ∧ t ≤ (runB B x).length ∧ Hid (St W.heap.size J (pre ++ ((runB B x).take t).map (fun y => (x, y))) X x wq)) (fun v7 _ => m + 1 - (intOf v7).toNat)
          case atStart => exact ⟨0, by go_num, Nat.zero_le _, by rw [List.take_zero]; simpa using HST0⟩
          case round =>
            clear HST0
            obtain ⟨t, rfl, htr, hS⟩ := hrel
            obtain ⟨hb1, hb2, hRa, hRb⟩ := unhide HJr _ _ (unhide hS).j
            have hp2 := hb2.cell
            have hx0 := (unhide hS).cells.1
            have hx1 := (unhide hS).cells.2
            have hxl := (unhide hS).lt
            have hrl := run_le B x
            rw [← unhide HFE, hBl] at hrl
            by_cases ht : t < (runB B x).length
            · omega
            · obtain rfl : t = (runB B x).length := by omega
              rw [List.take_length, ← unhide hpt] at hS
              by_cases him : f + (runB B x).length < m
              · omega
              · have him' : ¬ ((f + (runB B x).length : Nat) : Int) < (m : Int) := by omega
                generalize hi : f + (runB B x).length = i at *
                clear hb1 hb2 hRa hRb hi
                gi_wp2
                refine wpIn_wide.2 ?_
                go_quiet (fail)
                gi_wp2
                go_roundw
                case rel => exact ⟨f, k + 1, rfl, by go_num, by omega, by omega, fun h => by rw [unhide HFE]; exact unhide hnx h, ((unhide hS).drewN (unhide HJ) _).j, (unhide hS).size⟩
                case measure => simp [intOf]; omega
    · obtain rfl : k = n := by omega
      have hfin : Hid (J (pairsP A B) wr) := by
        have := unhide hJw
        rw [List.take_of_length_le (by omega)] at this
        exact this
      clear hJw hfb
      gi_wp2
      go_end0
      exact ⟨⟨_, rfl⟩, .inl (unhide hfin)⟩
end Go.Proofs.YtjkajhnnoecjbaaDoor.Vw
