/- What Count answers. -/
import Derived.Test.YtoignkaldlohmaaDoorLnRuns
import Derived.Test.YtoignkaldlohmaaDoorLnReach
import Derived.Shelf.Abstract
namespace Go.Proofs.YtoignkaldlohmaaDoor.Ln
open Go.RowKit Go.Shelf

attribute [local go_sem] Oper.semAt_some

theorem isSpace_any (c : Nat) (w : World) (h1 : c < 256) :
    Calls Tryd.prog 77 #[.int .u8 c] w fun e w' => e = .returned (.bool ((decide (9 ≤ c) && decide (c ≤ 13)) || decide (c = 32))) ∧ w' = w := by
  obtain ⟨r, hr⟩ : ∃ r, r = ((decide (9 ≤ c) && decide (c ≤ 13)) || decide (c = 32)) := ⟨_, rfl⟩
  rw [← hr]
  rcases (show c < 9 ∨ (9 ≤ c ∧ c ≤ 13) ∨ (13 < c ∧ c ≠ 32) ∨ c = 32 by omega) with h | ⟨h, h'⟩ | ⟨h, h'⟩ | rfl
  · have a1 : ¬ (9 : Int) ≤ (c : Int) := by omega
    have a2 : ((c : Int) == 32) = false := by simp; omega
    obtain rfl : r = false := by rw [hr]; simp; omega
    clear hr
    go_enter Tryd.func77, Tryd.ntmps77
    go_wp2
    go_ret
    exact ⟨rfl, rfl⟩
  · have a1 : (9 : Int) ≤ (c : Int) := by omega
    have a3 : (c : Int) ≤ 13 := by omega
    obtain rfl : r = true := by rw [hr]; simp [h, h']
    clear hr
    go_enter Tryd.func77, Tryd.ntmps77
    go_wp2
    go_ret
    exact ⟨rfl, rfl⟩
  · have a1 : (9 : Int) ≤ (c : Int) := by omega
    have a3 : ¬ (c : Int) ≤ 13 := by omega
    have a2 : ((c : Int) == 32) = false := by simp; omega
    obtain rfl : r = false := by rw [hr]; simp; omega
    clear hr
    go_enter Tryd.func77, Tryd.ntmps77
    go_wp2
    go_ret
    exact ⟨rfl, rfl⟩
  · obtain rfl : r = true := by rw [hr]; rfl
    clear hr
    go_enter Tryd.func77, Tryd.ntmps77
    go_wp2
    go_ret
    exact ⟨rfl, rfl⟩

theorem words_itr (bp bs : Nat) (s : ByteArray) (hs : s.size ≤ 1073741824) :
    Rng.Itr Tryd.prog 115 #[.pointer (some ⟨bp, 0, none⟩), .pointer (some ⟨bs, 0, none⟩)] enc1 (runsOf (parts isSpace s.data.toList)) (RdB bs bp s 77 #[]) :=
  runs1_itr bp bs s 77 #[] isSpace hs _ (fun W h => h) (fun W q h => h) (enters_of Tryd.func77 (by kernel_rfl) rfl)
    (fun c W _ => (isSpace_any c.toNat W c.toNat_lt).mono fun e W' h => ⟨h.1, h.2⟩)

def endsN (l : List (List UInt8 × Bool)) : Nat := (l.filter (·.2)).length
def longN (l : List (List UInt8 × Bool)) : Nat := l.foldl (fun m q => max m q.1.length) 0
theorem endsN_snoc (l : List (List UInt8 × Bool)) (x : List UInt8) (b : Bool) : endsN (l ++ [(x, b)]) = endsN l + if b then 1 else 0 := by cases b <;> simp [endsN]
theorem longN_snoc (l : List (List UInt8 × Bool)) (x : List UInt8 × Bool) : longN (l ++ [x]) = max (longN l) x.1.length := by simp [longN]
theorem endsN_le (l : List (List UInt8 × Bool)) : endsN l ≤ l.length := List.length_filter_le _ _
theorem longN_le (l : List (List UInt8 × Bool)) : longN l ≤ szs l := by
  have : ∀ (l : List (List UInt8 × Bool)) m k, m ≤ k → l.foldl (fun m q => max m q.1.length) m ≤ k + szs l := by
    intro l
    induction l with
    | nil => intro m k h; simpa [szs] using h
    | cons q l ih =>
      intro m k h
      have := ih (max m q.1.length) (k + sz q) (by unfold sz; omega)
      simp [szs] at this ⊢
      omega
  have h := this l 0 0 (Nat.le_refl _)
  rw [Nat.zero_add] at h
  exact h
theorem runsOf_len (l : List (List UInt8 × Bool)) : (runsOf l).length ≤ l.length := by
  unfold runsOf; exact Nat.le_trans (List.length_filter_le _ _) (by simp)

def countAns (s : ByteArray) : Value := .tuple #[.int .i64 (endsN (parts isEnd s.data.toList)), .int .i64 (runsOf (parts isSpace s.data.toList)).length, .int .i64 s.size, .int .i64 (longN (parts isEnd s.data.toList))]

set_option maxRecDepth 100000 in
set_option maxHeartbeats 2000000 in
theorem count_any (s : ByteArray) (w : World) (hs : s.size ≤ 1073741824) :
    Calls Tryd.prog 23 #[.string s] w fun e w' => e = .returned (countAns s) ∧ Below w.heap.size w w' := by
  have hpl : szs (parts isEnd s.data.toList) ≤ 1073741824 := by rw [szs_parts]; exact hs
  have hplen : (parts isEnd s.data.toList).length ≤ 1073741824 := Nat.le_trans (parts_len _ _) hs
  have hrlen : (runsOf (parts isSpace s.data.toList)).length ≤ 1073741824 := Nat.le_trans (runsOf_len _) (Nat.le_trans (parts_len _ _) hs)
  refine (callsIn_wide (n := 3)).1 ?_
  refine callsIn_of_wp_marks Tryd.func23 rfl trivial ?_ rfl
  simp only [Tryd.ntmps23, List.size_toArray, List.length_cons, List.length_nil, Nat.reduceAdd, Nat.reduceSub, Array.replicate_succ, Array.replicate_zero, List.push_toArray, List.append_toArray, List.nil_append, List.cons_append]
  gi_wp2_with (refine ⟨trivial, ?_⟩; gi_at_call 76; refine (callsIn_wide.2 (eachLine_any _ _)).mono ?_; rintro e w' ⟨rfl, rfl⟩)
  have bL := ((((Boxed.new w 3 (.int .i64 0)).alloc (.cells #[.int .i64 0] 3)).alloc (.cells #[.int .i64 0] 3)).alloc (.cells #[.func (.func 113) #[] #[]] 89)).alloc (.cells #[.string s] 9)
  have bW := (((Boxed.new (w.alloc (.cells #[.int .i64 0] 3)) 3 (.int .i64 0)).alloc (.cells #[.int .i64 0] 3)).alloc (.cells #[.func (.func 113) #[] #[]] 89)).alloc (.cells #[.string s] 9)
  have bM := ((Boxed.new ((w.alloc (.cells #[.int .i64 0] 3)).alloc (.cells #[.int .i64 0] 3)) 3 (.int .i64 0)).alloc (.cells #[.func (.func 113) #[] #[]] 89)).alloc (.cells #[.string s] 9)
  have bP := (Boxed.new (((w.alloc (.cells #[.int .i64 0] 3)).alloc (.cells #[.int .i64 0] 3)).alloc (.cells #[.int .i64 0] 3)) 89 (.func (.func 113) #[] #[])).alloc (.cells #[.string s] 9)
  have bS := Boxed.new ((((w.alloc (.cells #[.int .i64 0] 3)).alloc (.cells #[.int .i64 0] 3)).alloc (.cells #[.int .i64 0] 3)).alloc (.cells #[.func (.func 113) #[] #[]] 89)) 9 (.string s)
  have hB0 : Below w.heap.size w (((((w.alloc (.cells #[.int .i64 0] 3)).alloc (.cells #[.int .i64 0] 3)).alloc (.cells #[.int .i64 0] 3)).alloc (.cells #[.func (.func 113) #[] #[]] 89)).alloc (.cells #[.string s] 9)) :=
    (((((Below.refl _ w).alloc (Nat.le_refl _) _).alloc (by simp) _).alloc (by simp; omega) _).alloc (by simp; omega) _).alloc (by simp; omega) _
  have hsz : (((((w.alloc (.cells #[.int .i64 0] 3)).alloc (.cells #[.int .i64 0] 3)).alloc (.cells #[.int .i64 0] 3)).alloc (.cells #[.func (.func 113) #[] #[]] 89)).alloc (.cells #[.string s] 9)).heap.size = w.heap.size + 5 := by simp
  simp only [World.size_alloc] at bW bM bP bS
  generalize (((((w.alloc (.cells #[.int .i64 0] 3)).alloc (.cells #[.int .i64 0] 3)).alloc (.cells #[.int .i64 0] 3)).alloc (.cells #[.func (.func 113) #[] #[]] 89)).alloc (.cells #[.string s] 9)) = W0 at *
  refine Rng.range (gf := 131) (lb := #[.pointer (some ⟨w.heap.size + 4, 0, none⟩), .pointer (some ⟨w.heap.size + 3, 0, none⟩)]) rfl (enters_of Tryd.func131 (by kernel_rfl) rfl)
    (lines_itr (w.heap.size + 4) (w.heap.size + 3) s hs) (fun _ => rfl)
    (fun N pre W => Boxed W w.heap.size 3 (.int .i64 (endsN pre)) ∧ Boxed W (w.heap.size + 1) 3 (.int .i64 0) ∧ Boxed W (w.heap.size + 2) 3 (.int .i64 (longN pre)) ∧ RdB (w.heap.size + 4) (w.heap.size + 3) s 113 #[] W ∧ Below w.heap.size w W)
    (fun N c pre W => False)
    (fun N => OwnFrom.and (Own.from (boxed_own _ _ (fun pre => .int .i64 (endsN pre))) _) (OwnFrom.and (Own.from (boxed_own _ _ (fun pre => .int .i64 0)) _) (OwnFrom.and (Own.from (boxed_own _ _ (fun pre => .int .i64 (longN pre))) _) (OwnFrom.and (OwnFrom.and (Own.from (boxed_own _ _ (fun _ => .string s)) _) (Own.from (boxed_own _ _ (fun _ => .func (.func 113) #[] #[])) _)) (ownFrom_below (Nat.le_refl _) (by omega))))))
    (fun _ _ _ _ _ _ hs _ _ => hs)
    (fun _ _ _ h => h.2.2.2.1)
    (fun N => ⟨bL, bW, bM, ⟨bS, bP⟩, hB0⟩)
    (fun x => { tmps := #[.string s, undef, .pointer (some ⟨w.heap.size, 0, none⟩), .pointer (some ⟨w.heap.size + 1, 0, none⟩), .int .i64 0, .pointer (some ⟨w.heap.size + 2, 0, none⟩), .string (bt x.1), .bool x.2, .string s, itv (w.heap.size + 4) (w.heap.size + 3), .string (bt x.1), .bool x.2, undef, undef, undef, undef, undef, undef, undef, undef, undef, undef, undef, undef, undef, undef, undef, undef, undef, undef], defers := [] }) ?assign ?body ?done ?stop
  case assign =>
    intro m l x W K hK
    simp only [enc]
    gi_wp2
    exact hK
  case body =>
    rintro m l N pre ⟨x, b⟩ W ⟨hL, hW, hM, hR, hB⟩ hpre hN1 hN2
    rw [hsz] at hN1
    have hc1 := hL.cell
    have hc2 := hM.cell
    have hf1 := hL.frozen
    have hf2 := hM.frozen
    have hle := szs_prefix hpre
    rw [szs_snoc] at hle
    have hll := longN_le pre
    have hel := endsN_le pre
    have hlen := hpre.length_le
    simp at hlen
    have hbs : (bt x).size = x.length := rfl
    have hxx : x.length ≤ sz (x, b) := by unfold sz; simp
    have hM1 := longN_snoc pre (x, b)
    have hE1 := endsN_snoc pre x b
    have hmx : (longN pre : Int) < x.length ∧ longN (pre ++ [(x, b)]) = x.length ∨ (x.length : Int) ≤ longN pre ∧ longN (pre ++ [(x, b)]) = longN pre := by simp at hM1; omega
    clear hM1
    clear hpre hE1
    have hR' := hide hR
    clear hR
    rcases hmx with ⟨hlt, hM1⟩ | ⟨hlt, hM1⟩
    all_goals
      have hM1' := hide hM1
      clear hM1
      cases b
      · have hE' : endsN (pre ++ [(x, false)]) = endsN pre := by rw [endsN_snoc]; rfl
        have hE := hide hE'
        clear hE'
        gi_wp2
        refine ⟨Rng.Stays.set _ _ _ (by omega), by rw [unhide hE]; exact hL.other (by omega) _, hW.other (by omega) _, by rw [unhide hM1']; exact hM.set _, ⟨(unhide hR').1.other (by omega) _, (unhide hR').2.other (by omega) _⟩, hB.setCell (p := ⟨w.heap.size + 2, 0, none⟩) (Nat.le_add_right _ _) _⟩
      · have hE' : ((endsN (pre ++ [(x, true)]) : Nat) : Int) = (endsN pre : Int) + 1 := by rw [endsN_snoc]; simp
        have hE := hide hE'
        clear hE'
        gi_wp2
        refine ⟨(Rng.Stays.set _ _ _ (by omega)).trans (Rng.Stays.set _ _ _ (by omega)), by rw [unhide hE]; exact (hL.set _).other (by omega) _, (hW.other (by omega) _).other (by omega) _, by rw [unhide hM1']; exact (hM.other (by omega) _).set _, ⟨((unhide hR').1.other (by omega) _).other (by omega) _, ((unhide hR').2.other (by omega) _).other (by omega) _⟩, (hB.setCell (p := ⟨w.heap.size, 0, none⟩) (Nat.le_refl _) _).setCell (p := ⟨w.heap.size + 2, 0, none⟩) (Nat.le_add_right _ _) _⟩
  case done =>
    rintro N W hN ⟨hL, hW, hM, hR, hB⟩ hD
    clear bL bW bM bP bS hB0 hR
    have hel := endsN_le (parts isEnd s.data.toList)
    have hll := longN_le (parts isEnd s.data.toList)
    obtain ⟨nE, hnE⟩ : ∃ nE, nE = endsN (parts isEnd s.data.toList) := ⟨_, rfl⟩
    obtain ⟨nM, hnM⟩ : ∃ nM, nM = longN (parts isEnd s.data.toList) := ⟨_, rfl⟩
    rw [← hnE] at hL hel
    rw [← hnM] at hM hll
    have HE := hide hnE
    have HM := hide hnM
    clear hnE hnM
    have hDlt : W0.heap.size < W.heap.size := (Array.getElem?_eq_some_iff.1 hD).1
    have hD' := hide hD
    clear hD
    gi_wp2_with (refine ⟨trivial, ?_⟩; gi_at_call 78; refine (callsIn_wide.2 (runs_any _ _ _ _)).mono ?_; rintro e w' ⟨rfl, rfl⟩)
    have bL := (hL.alloc (.cells #[.func (.func 77) #[] #[]] 89)).alloc (.cells #[.string s] 9)
    have bW := (hW.alloc (.cells #[.func (.func 77) #[] #[]] 89)).alloc (.cells #[.string s] 9)
    have bM := (hM.alloc (.cells #[.func (.func 77) #[] #[]] 89)).alloc (.cells #[.string s] 9)
    have bP := (Boxed.new W 89 (.func (.func 77) #[] #[])).alloc (.cells #[.string s] 9)
    have bS := Boxed.new (W.alloc (.cells #[.func (.func 77) #[] #[]] 89)) 9 (.string s)
    have hB0 : Below w.heap.size w ((W.alloc (.cells #[.func (.func 77) #[] #[]] 89)).alloc (.cells #[.string s] 9)) := (hB.alloc hB.size _).alloc (by have := hB.size; simp; omega) _
    have hD0 : Hid (((W.alloc (.cells #[.func (.func 77) #[] #[]] 89)).alloc (.cells #[.string s] 9)).heap[w.heap.size + 5]? = some (.deferred (some []))) := by
      show _ = _
      rw [Below.heap_alloc _ _ _ (by simp; omega), Below.heap_alloc _ _ _ (by omega), ← hsz]
      exact unhide hD'
    have hsz2 : ((W.alloc (.cells #[.func (.func 77) #[] #[]] 89)).alloc (.cells #[.string s] 9)).heap.size = W.heap.size + 2 := by simp
    simp only [World.size_alloc] at bS
    have hBs := hB.size
    clear hL hW hM hB hD'
    generalize ((W.alloc (.cells #[.func (.func 77) #[] #[]] 89)).alloc (.cells #[.string s] 9)) = W1 at *
    refine Rng.range (gf := 115) (lb := #[.pointer (some ⟨W.heap.size, 0, none⟩), .pointer (some ⟨W.heap.size + 1, 0, none⟩)]) rfl (enters_of Tryd.func115 (by kernel_rfl) rfl)
      (words_itr W.heap.size (W.heap.size + 1) s hs) (fun _ => rfl)
      (fun N pre X => Boxed X w.heap.size 3 (.int .i64 nE) ∧ Boxed X (w.heap.size + 1) 3 (.int .i64 pre.length) ∧ Boxed X (w.heap.size + 2) 3 (.int .i64 nM) ∧ RdB (W.heap.size + 1) W.heap.size s 77 #[] X ∧ Below w.heap.size w X ∧ X.heap[w.heap.size + 5]? = some (.deferred (some [])))
      (fun N c pre X => False)
      (fun N => OwnFrom.and (Own.from (boxed_own _ _ (fun pre => .int .i64 nE)) _) (OwnFrom.and (Own.from (boxed_own _ _ (fun pre : List (List UInt8) => .int .i64 pre.length)) _) (OwnFrom.and (Own.from (boxed_own _ _ (fun pre => .int .i64 nM)) _) (OwnFrom.and (OwnFrom.and (Own.from (boxed_own _ _ (fun _ => .string s)) _) (Own.from (boxed_own _ _ (fun _ => .func (.func 77) #[] #[])) _)) (OwnFrom.and (ownFrom_below (Nat.le_refl _) (by omega)) (fun st X Y row h1 hg hr => (hg.block _ (Array.getElem?_eq_some_iff.1 h1).1 (fun e => by have := (hr _ e.symm).1; omega)).trans h1))))))
      (fun _ _ _ _ _ _ hs _ _ => hs)
      (fun _ _ _ h => h.2.2.2.1)
      (fun N => ⟨bL, bW, bM, ⟨bS, bP⟩, hB0, unhide hD0⟩)
      (fun x => { tmps := #[.string s, undef, .pointer (some ⟨w.heap.size, 0, none⟩), .pointer (some ⟨w.heap.size + 1, 0, none⟩), .int .i64 0, .pointer (some ⟨w.heap.size + 2, 0, none⟩), undef, undef, .string s, itv (w.heap.size + 4) (w.heap.size + 3), undef, undef, undef, undef, undef, undef, undef, undef, undef, .agg #[.func (.func 77) #[] #[]], .string s, itr W.heap.size (W.heap.size + 1), .string (bt x), undef, undef, undef, undef, undef, undef, undef], defers := [] }) ?assign2 ?body2 ?done2 ?stop2
    case assign2 =>
      intro m l x X K hK
      simp only [enc1]
      gi_wp2
      simpa using hK
    case body2 =>
      rintro m l N pre x X ⟨hL, hW, hM, hR, hB, hD⟩ hpre hN1 hN2
      rw [hsz2] at hN1
      have hc1 := hW.cell
      have hf1 := hW.frozen
      have hlen := hpre.length_le
      simp at hlen
      have hE' : ((pre ++ [x]).length : Int) = (pre.length : Int) + 1 := by simp
      have hE := hide hE'
      have hR' := hide hR
      have hD2 := hide hD
      clear hE' hR hD
      gi_wp2
      refine ⟨Rng.Stays.set _ _ _ (by omega), hL.other (by omega) _, by rw [unhide hE]; exact hW.set _, hM.other (by omega) _, ⟨(unhide hR').1.other (by omega) _, (unhide hR').2.other (by omega) _⟩, hB.setCell (p := ⟨w.heap.size + 1, 0, none⟩) (Nat.le_add_right _ _) _, (Below.heap_setCell _ _ _ _ (by simp)).trans (unhide hD2)⟩
    case done2 =>
      rintro N' X hN' ⟨hL, hW, hM, hR, hB, hD1⟩ hD2
      have hc1 := hL.cell
      have hc2 := hW.cell
      have hc3 := hM.cell
      have hf1 := hL.frozen
      have hf2 := hW.frozen
      have hf3 := hM.frozen
      have HD1 := hide hD1
      have HD2 := hide hD2
      clear hD1 hD2
      gi_wp2
      refine wpIn_wide.2 ?_
      go_region
      have hXs : W1.heap.size < X.heap.size := (Array.getElem?_eq_some_iff.1 (unhide HD2)).1
      have hlt1 : w.heap.size + 5 < X.heap.size := by omega
      obtain ⟨Y, hY⟩ : ∃ Y, Y = (((X.setCell ⟨w.heap.size, 0, none⟩ (.int .i64 nE)).setCell ⟨w.heap.size + 1, 0, none⟩ (.int .i64 (runsOf (parts isSpace s.data.toList)).length)).setCell ⟨w.heap.size + 1 + 1, 0, none⟩ (.int .i64 nM)).drew := ⟨_, rfl⟩
      have yL : Boxed Y w.heap.size 3 (.int .i64 nE) := by rw [hY]; exact ((hL.set _).other (by omega) _).other (by omega) _
      have yW : Boxed Y (w.heap.size + 1) 3 (.int .i64 (runsOf (parts isSpace s.data.toList)).length) := by rw [hY]; exact ((hW.other (by omega) _).set _).other (by omega) _
      have yM : Boxed Y (w.heap.size + 2) 3 (.int .i64 nM) := by rw [hY]; exact ((hM.other (by omega) _).other (by omega) _).set _
      have yB : Below w.heap.size w Y := by rw [hY]; exact (((hB.setCell (p := ⟨w.heap.size, 0, none⟩) (Nat.le_refl _) _).setCell (p := ⟨w.heap.size + 1, 0, none⟩) (Nat.le_add_right _ _) _).setCell (p := ⟨w.heap.size + 1 + 1, 0, none⟩) (by simp; omega) _).drew
      have y1 : Y.heap[w.heap.size + 5]? = some (.deferred (some [])) := by rw [hY]; exact ((Below.heap_setCell _ _ _ _ (by simp)).trans ((Below.heap_setCell _ _ _ _ (by simp)).trans (Below.heap_setCell _ _ _ _ (by simp)))).trans (unhide HD1)
      have y2 : Y.heap[W1.heap.size]? = some (.deferred (some [])) := by rw [hY]; exact ((Below.heap_setCell _ _ _ _ (by simp; omega)).trans ((Below.heap_setCell _ _ _ _ (by simp; omega)).trans (Below.heap_setCell _ _ _ _ (by simp; omega)))).trans (unhide HD2)
      rw [← hY]
      clear hY hL hW hM hB hR HD1 HD2 hc1 hc2 hc3 hf1 hf2 hf3
      gi_wp2
      refine ⟨by simp, .inl ⟨_, _, rfl, run_takeDeferred y2, ?_⟩⟩
      have z1 : (Y.putObj W1.heap.size (.deferred none)).heap[w.heap.size + 5]? = some (.deferred (some [])) := (World.putObj_heap_other (by omega)).trans y1
      refine ⟨by simp, .inl ⟨_, _, rfl, run_takeDeferred z1, ?_⟩⟩
      have zL := (yL.kept (grownBy_putObj' Y W1.heap.size (.deferred none)) (by simp; omega)).kept (grownBy_putObj' _ (w.heap.size + 5) (.deferred none)) (by simp)
      have zW := (yW.kept (grownBy_putObj' Y W1.heap.size (.deferred none)) (by simp; omega)).kept (grownBy_putObj' _ (w.heap.size + 5) (.deferred none)) (by simp)
      have zM := (yM.kept (grownBy_putObj' Y W1.heap.size (.deferred none)) (by simp; omega)).kept (grownBy_putObj' _ (w.heap.size + 5) (.deferred none)) (by simp)
      have zB : Below w.heap.size w ((Y.putObj W1.heap.size (.deferred none)).putObj (w.heap.size + 5) (.deferred none)) := (yB.trans (belowK_b (w := w) (Nat.le_refl _) _ _ _ _ (by omega) y2 rfl rfl)).trans (belowK_b (w := w) (Nat.le_refl _) _ _ _ _ (by omega) z1 rfl rfl)
      refine ⟨.tuple #[.int .i64 nE, .int .i64 (runsOf (parts isSpace s.data.toList)).length, .int .i64 s.size, .int .i64 nM], ?_, ?_, zB⟩
      · have q1 := zL.cell
        have q2 := zW.cell
        have q3 := zM.cell
        clear zL zW zM zB z1 y1 y2 yB yL yW yM
        generalize ((Y.putObj W1.heap.size (.deferred none)).putObj (w.heap.size + 5) (.deferred none)) = Z at *
        simp [results, Tryd.f23, go_sem, q1, q2, q3]
      · rw [countAns, ← unhide HE, ← unhide HM]
    case stop2 =>
      rintro N c pre W _ _ h _
      exact h.elim
  case stop =>
    rintro N c pre W _ _ h _
    exact h.elim

end Go.Proofs.YtoignkaldlohmaaDoor.Ln
