/- What the document's In and Find answer. -/
import Derived.Test.YtighgaocnpofpaaTrRck
import Derived.Test.YtighgaocnpofpaaTrFind
namespace Go.Proofs.Ytighgaocnpofpaa.Tr
open Go.RowKit Go.Proofs.Ytighgaocnpofpaa.Cu

theorem find_first {es : List En} {t : ByteArray} (k : Nat) (hk : k < es.length) (hno : ∀ j, j < k → (en es j).name ≠ t) (h : (en es k).name = t) : findP es t = (en es k).node := by
  unfold findP
  have e1 : en es k = es[k] := by simp [en, List.getD, List.getElem?_eq_getElem hk]
  have hf : es.find? (fun e => decide (e.name = t)) = some es[k] := by
    rw [List.find?_eq_some_iff_getElem]
    refine ⟨by rw [← e1]; simpa using h, k, hk, rfl, fun j hj => ?_⟩
    have e2 : en es j = es[j] := by simp [en, List.getD, List.getElem?_eq_getElem (show j < es.length by omega)]
    have := hno j hj
    rw [e2] at this
    simpa using this
  rw [hf, e1]
def inP (ns : List Nd) (i : Int) (t : ByteArray) : Int := if i < 1 ∨ (ns.length : Int) ≤ i then 0 else findP (nd ns i.toNat).list t
set_option maxRecDepth 100000 in
set_option maxHeartbeats 1000000 in
theorem rin_any (a : Option Addr) (n cap : Nat) (ns : List Nd) (now i : Int) (t : ByteArray) (w : World) (h : Ng w a n cap ns) (hls : ∀ i, (nd ns i).list.length ≤ 1000000000) :
    Calls Try.prog 49 #[.agg #[.slice a n cap, .int .i64 now], .int .i64 i, .string t] w fun e w' => e = .returned (.int .i64 (inP ns i t)) ∧ Below w.heap.size w w' := by
  have HB1 : Hid (∀ o, Below w.heap.size w (w.alloc o)) := fun o => (Below.refl _ w).alloc (Nat.le_refl _) o
  by_cases a1 : i < 1
  · have hv : inP ns i t = 0 := if_pos (.inl a1)
    rw [hv]
    clear hv h
    go_enter Try.func49, Try.ntmps49
    go_wp2
    go_ret
    exact ⟨rfl, unhide HB1 _⟩
  by_cases a2 : (n : Int) ≤ i
  · have hv : inP ns i t = 0 := if_pos (.inr (by rw [h.len]; exact a2))
    rw [hv]
    clear hv h
    go_enter Try.func49, Try.ntmps49
    go_wp2
    go_ret
    exact ⟨rfl, unhide HB1 _⟩
  have hv : inP ns i t = findP (nd ns i.toNat).list t := if_neg (by rw [h.len]; omega)
  rw [hv]
  clear hv
  obtain ⟨x, rfl⟩ : ∃ x : Nat, i = (x : Int) := ⟨i.toNat, by omega⟩
  rw [Int.toNat_natCast]
  have hxn : x < n := by omega
  rcases h.cells with h0 | ⟨b, off, rfl, hb, hc⟩
  · omega
  obtain ⟨da, dc, la, lc, h10, -, heg⟩ := hc x hxn
  have hll0 := hls x
  obtain ⟨es, hes⟩ : ∃ es, es = (nd ns x).list := ⟨_, rfl⟩
  rw [← hes] at heg hll0 ⊢
  obtain ⟨ll, hll⟩ : ∃ ll, ll = es.length := ⟨_, rfl⟩
  have c8 := h10.c8
  rw [← hes, ← hll] at c8
  rw [← hll] at heg hll0
  have HL := hide hll
  have HF : Hid ((∀ k, k < ll → (en es k).name ≠ t) → findP es t = 0) := fun h => find_no (by rw [← hll]; exact h)
  have HG : Hid (∀ k, k < ll → (∀ j, j < k → (en es j).name ≠ t) → (en es k).name = t → findP es t = (en es k).node) := fun k hk h1 h2 => find_first k (by rw [← hll]; exact hk) h1 h2
  have HE := hide heg
  obtain ⟨R, hR⟩ : ∃ R, R = findP es t := ⟨_, rfl⟩
  rw [← hR] at HF HG ⊢
  clear h hc h10 hes hll heg hR hls
  go_enter Try.func49, Try.ntmps49
  go_wp2_with fail
  obtain ⟨W, hWe⟩ : ∃ W, W = w.alloc (.cells #[.slice (some ⟨b, off, none⟩) n cap, .int .i64 now] 24) := ⟨_, rfl⟩
  have HB2 : Hid (Below w.heap.size w W) := by rw [hWe]; exact unhide HB1 _
  have HE2 := hide ((unhide HE).below (unhide HB2))
  rw [← hWe]
  clear hWe HE HB1 c8
  go_loopw [8] (fun iv wr => ∃ k : Nat, k ≤ ll ∧ iv = .int .i64 k ∧ wr = W ∧ Hid (∀ j, j < k → (en es j).name ≠ t)) (fun iv _ => ll - (intOf iv).toNat)
  case atStart => exact ⟨0, Nat.zero_le _, rfl, rfl, fun j h => by omega⟩
  case round =>
    obtain ⟨k, hk, rfl, rfl, hno⟩ := hrel
    by_cases hlt : k < ll
    · have hlt' : (k : Int) < (ll : Int) := by omega
      rcases (unhide HE2).cells with h0 | ⟨lb, lo, rfl, hlb, hcc⟩
      · omega
      have e0 := (hcc k hlt).c0
      have e1 := (hcc k hlt).c1
      by_cases hn : (en es k).name = t
      · have hR := unhide HG k hlt (unhide hno) hn
        rw [hn] at e0
        rw [← hR] at e1
        clear hcc hR hn HF HG hno
        go_wp2
        go_ret
        exact ⟨rfl, unhide HB2⟩
      · have hno2 : Hid (∀ j, j < k + 1 → (en es j).name ≠ t) := fun j hj => by
          by_cases e : j = k
          · subst e; exact hn
          · exact unhide hno j (by omega)
        generalize (en es k).name = nm at *
        generalize (en es k).node = no at *
        have hnb := toList_ne hn
        clear hcc hno hn
        go_wp2
        go_roundw
        case rel => exact ⟨k + 1, by omega, by go_num, trivial, hno2⟩
        case measure => simp [intOf]; omega
    · have hlt' : ¬ (k : Int) < (ll : Int) := by omega
      obtain rfl : R = 0 := unhide HF fun j hj => unhide hno j (by omega)
      clear hno HF HG
      go_wp2
      go_ret
      exact ⟨rfl, unhide HB2⟩
theorem findV_is (now : Int) (ns : List Nd) (i : Int) (t : ByteArray) : findV now ns i t = if checkP now ns then inP ns i t else 0 := by
  cases hc : checkP now ns with
  | false =>
    have e : isDirP now ns i = false := by simp [isDirP, nodeP, hc]
    simp [findV, e]
  | true =>
    rw [if_pos rfl]
    by_cases h1 : i < 1
    · have e : isDirP now ns i = false := by simp only [isDirP, nodeP, show decide (0 < i) = false from decide_eq_false (by omega), Bool.and_false, Bool.false_and]
      have e2 : inP ns i t = 0 := if_pos (.inl h1)
      simp [findV, e, e2]
    by_cases h2 : (ns.length : Int) ≤ i
    · have e : isDirP now ns i = false := by simp only [isDirP, nodeP, show decide (i < (ns.length : Int)) = false from decide_eq_false (by omega), Bool.and_false, Bool.false_and]
      have e2 : inP ns i t = 0 := if_pos (.inr h2)
      simp [findV, e, e2]
    have e2 : inP ns i t = findP (nd ns i.toNat).list t := if_neg (by omega)
    rw [e2]
    by_cases hk : (nd ns i.toNat).kind = 2
    · have e : isDirP now ns i = true := by simp only [isDirP, nodeP, hc, hk, show decide (0 < i) = true from decide_eq_true (by omega), show decide (i < (ns.length : Int)) = true from decide_eq_true (by omega)]; decide
      simp [findV, e]
    · have hl := list_of_kind ((checkP_parts hc).2.2.2.2.2.1 i.toNat (by omega)) hk
      have e : isDirP now ns i = false := by simp [isDirP, hk]
      rw [List.eq_nil_of_length_eq_zero hl]
      simp [findV, e, findP]
set_option maxRecDepth 100000 in
set_option maxHeartbeats 1000000 in
theorem rfind_any (a : Option Addr) (n cap : Nat) (ns : List Nd) (now i : Int) (t : ByteArray) (w : World) (h : Ng w a n cap ns) (hs : Sm ns) (hr : ∀ i, i < n → Rb (nd ns i)) :
    Calls Try.prog 19 #[.agg #[.slice a n cap, .int .i64 now], .int .i64 i, .string t] w fun e w' => e = .returned (.int .i64 (findV now ns i t)) ∧ Below w.heap.size w w' := by
  have HC : Hid (∀ W, Below w.heap.size w W → Calls Try.prog 10 #[.agg #[.slice a n cap, .int .i64 now]] W fun e w' => e = .returned (.bool (checkP now ns)) ∧ Below W.heap.size W w') := fun W hW => rcheckAny now (h.below hW) hs hr
  have HI : Hid (∀ W, Below w.heap.size w W → Calls Try.prog 49 #[.agg #[.slice a n cap, .int .i64 now], .int .i64 i, .string t] W fun e w' => e = .returned (.int .i64 (inP ns i t)) ∧ Below W.heap.size W w') := fun W hW => rin_any a n cap ns now i t W (h.below hW) hs.hls
  have HB1 : Hid (Below w.heap.size w (w.alloc (.cells #[.slice a n cap, .int .i64 now] 24))) := (Below.refl _ w).alloc (Nat.le_refl _) _
  have HX0 := hide (heap_alloc_new w (.cells #[.slice a n cap, .int .i64 now] 24))
  rw [findV_is]
  obtain ⟨I, hI⟩ : ∃ I, I = inP ns i t := ⟨_, rfl⟩
  obtain ⟨K, hK⟩ : ∃ K, K = checkP now ns := ⟨_, rfl⟩
  rw [← hI] at HI ⊢
  rw [← hK] at HC ⊢
  clear h hI hK hr
  go_enter Try.func19, Try.ntmps19
  go_wp2_with fail
  refine (unhide HC _ (unhide HB1)).mono ?_
  rintro e w1 ⟨rfl, hb⟩
  have HB2 := hide ((unhide HB1).trans (hb.mono (unhide HB1).size))
  have HX1 := hide ((hb.block _ (Array.getElem?_eq_some_iff.1 (unhide HX0)).1).trans (unhide HX0))
  clear hb
  cases K with
  | false =>
    go_wp2
    go_ret
    exact ⟨rfl, unhide HB2⟩
  | true =>
    have c0 : w1.cell? ⟨w.heap.size, 0, none⟩ = some (.slice a n cap) := by rw [cell_of_row _ _ _ _ _ _ (unhide HX1)]; rfl
    have c1 : w1.cell? ⟨w.heap.size, 1, none⟩ = some (.int .i64 now) := by rw [cell_of_row _ _ _ _ _ _ (unhide HX1)]; rfl
    go_wp2_with fail
    refine (unhide HI _ (unhide HB2)).mono ?_
    rintro e w2 ⟨rfl, hb⟩
    have HB3 := hide ((unhide HB2).trans (hb.mono (unhide HB2).size))
    clear hb
    go_wp2
    go_ret
    exact ⟨rfl, unhide HB3⟩
end Go.Proofs.Ytighgaocnpofpaa.Tr
