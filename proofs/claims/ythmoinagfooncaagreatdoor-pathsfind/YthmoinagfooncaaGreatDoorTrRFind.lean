import Derived.Test.YthmoinagfooncaaGreatDoorPmMay
import Derived.Test.YthmoinagfooncaaGreatDoorTrRck
import Derived.Test.YthmoinagfooncaaGreatDoorTrFind
/- The document's May and Owns walked. -/
namespace Go.Proofs.YthmoinagfooncaaGreatDoor.Pm
open Go.RowKit Go.Proofs.YthmoinagfooncaaGreatDoor.Cu Go.Proofs.YthmoinagfooncaaGreatDoor.Tr

set_option maxRecDepth 100000 in
set_option maxHeartbeats 2000000 in
theorem rmay_any (n : Nd) (d l : Value) (e : Ev) (what : Int) (w : World) :
    Calls Tryz.prog 41 #[.agg (na n d l), .agg (ea e), .int .i64 what] w fun r w' => r = .returned (.bool (mayP n e what)) ∧ Below w.heap.size w w' := by
  obtain ⟨M, HM⟩ : ∃ M, Hid (M = mayP n e what) := ⟨_, rfl⟩
  rw [← unhide HM]
  have HMe : Hid (M = if what < 1 ∨ 7 < what ∨ n.kind = 0 then false else if e.user = 0 then decide (what % 2 = 0) || (!decide (n.kind = 1) || anyX n.mode) else sub what.toNat (bitsP n e)) := by
    show M = _
    rw [unhide HM]; rfl
  clear HM
  by_cases a1 : what < 1
  · obtain rfl : M = false := by rw [unhide HMe, if_pos (.inl a1)]
    clear HMe
    obtain ⟨kd, md, us, gr, lk, ti, dt, tg, ls, pa⟩ := n
    obtain ⟨u, g, mk, dr⟩ := e
    unfold na ea
    go_enter Tryz.func41, Tryz.ntmps41
    go_wp2
    go_ret
    exact ⟨rfl, b2 _ _ _⟩
  by_cases a2 : 7 < what
  · obtain rfl : M = false := by rw [unhide HMe, if_pos (.inr (.inl a2))]
    clear HMe
    obtain ⟨kd, md, us, gr, lk, ti, dt, tg, ls, pa⟩ := n
    obtain ⟨u, g, mk, dr⟩ := e
    unfold na ea
    go_enter Tryz.func41, Tryz.ntmps41
    go_wp2
    go_ret
    exact ⟨rfl, b2 _ _ _⟩
  by_cases a3 : n.kind = 0
  · obtain rfl : M = false := by rw [unhide HMe, if_pos (.inr (.inr a3))]
    clear HMe
    obtain ⟨kd, md, us, gr, lk, ti, dt, tg, ls, pa⟩ := n
    simp only at a3
    subst a3
    obtain ⟨u, g, mk, dr⟩ := e
    unfold na ea
    go_enter Tryz.func41, Tryz.ntmps41
    go_wp2
    go_ret
    exact ⟨rfl, b2 _ _ _⟩
  rw [if_neg (fun h => h.elim a1 fun h => h.elim a2 a3)] at HMe
  have hk : (((n.kind.toNat : Nat) : Int) == 0) = false := by have := kd_ne n.kind 0 a3; simpa using this
  obtain ⟨a, rfl⟩ : ∃ a : Nat, what = (a : Int) := ⟨what.toNat, by omega⟩
  have ha : a < 8 := by omega
  by_cases a4 : e.user = 0
  · rw [if_pos a4] at HMe
    by_cases a5 : (a : Int) % 2 = 0
    · obtain rfl : M = true := by rw [unhide HMe]; simp only [a5, decide_true, Bool.true_or]
      have h1 : (bits .and .i64 (a : Int) 1 == 0) = true := by rw [and1, a5]; rfl
      clear HMe a5 a3
      obtain ⟨kd, md, us, gr, lk, ti, dt, tg, ls, pa⟩ := n
      obtain ⟨u, g, mk, dr⟩ := e
      simp only at a4 hk
      subst a4
      unfold na ea
      go_enter Tryz.func41, Tryz.ntmps41
      go_wp2
      go_ret
      exact ⟨rfl, b2 _ _ _⟩
    have h1 : (bits .and .i64 (a : Int) 1 == 0) = false := by rw [and1]; exact decide_eq_false a5
    have hd : decide ((a : Int) % 2 = 0) = false := decide_eq_false a5
    rw [hd, Bool.false_or] at HMe
    by_cases a6 : n.kind = 1
    · have HM2 : Hid (M = (bits .and .i64 n.mode 73 != 0)) := by show M = _; rw [unhide HMe, a6]; rfl
      clear HMe a5 a3 hd
      obtain ⟨kd, md, us, gr, lk, ti, dt, tg, ls, pa⟩ := n
      obtain ⟨u, g, mk, dr⟩ := e
      simp only at a4 a6 hk HM2
      subst a4 a6
      unfold na ea
      clear hk
      go_enter Tryz.func41, Tryz.ntmps41
      go_wp2
      go_ret
      exact ⟨ret_b (unhide HM2).symm, b2 _ _ _⟩
    · obtain rfl : M = true := by rw [unhide HMe]; simp [a6]
      have hk1 : (((n.kind.toNat : Nat) : Int) != 1) = true := by have := kd_ne n.kind 1 a6; simpa using this
      clear HMe a5 a3 hd a6
      obtain ⟨kd, md, us, gr, lk, ti, dt, tg, ls, pa⟩ := n
      obtain ⟨u, g, mk, dr⟩ := e
      simp only at a4 hk hk1
      subst a4
      unfold na ea
      go_enter Tryz.func41, Tryz.ntmps41
      go_wp2
      go_ret
      exact ⟨rfl, b2 _ _ _⟩
  · rw [if_neg a4] at HMe
    have hB8 := bitsP_lt n e
    have HM2 : Hid ((bits .and .i64 ((bitsP n e : Nat) : Int) (a : Int) == (a : Int)) = M) := by
      show _ = M
      rw [and8 a ha _ hB8, unhide HMe]; rfl
    clear HMe a3
    by_cases c1 : e.user = n.user
    · have HB : Hid (bits .and .i64 (n.mode / 64) 7 = ((bitsP n e : Nat) : Int)) := by show _ = _; rw [Mo.and7]; simp only [bitsP, c1, if_true]; omega
      rw [← unhide HB] at HM2
      clear HB hB8
      obtain ⟨kd, md, us, gr, lk, ti, dt, tg, ls, pa⟩ := n
      obtain ⟨u, g, mk, dr⟩ := e
      simp only at a4 hk HM2 c1
      have h0 : (u == 0) = false := by simpa using a4
      subst c1
      clear a4
      unfold na ea
      go_enter Tryz.func41, Tryz.ntmps41
      go_wp2
      go_ret
      exact ⟨ret_b (unhide HM2), b2 _ _ _⟩
    by_cases c2 : e.group = n.group
    · have HB : Hid (bits .and .i64 (n.mode / 8) 7 = ((bitsP n e : Nat) : Int)) := by show _ = _; rw [Mo.and7]; simp only [bitsP, c1, c2, if_true, if_false]; omega
      rw [← unhide HB] at HM2
      clear HB hB8
      obtain ⟨kd, md, us, gr, lk, ti, dt, tg, ls, pa⟩ := n
      obtain ⟨u, g, mk, dr⟩ := e
      simp only at a4 hk HM2 c1 c2
      have h0 : (u == 0) = false := by simpa using a4
      have h1 : (u == us) = false := by simpa using c1
      subst c2
      clear a4 c1
      unfold na ea
      go_enter Tryz.func41, Tryz.ntmps41
      go_wp2
      go_ret
      exact ⟨ret_b (unhide HM2), b2 _ _ _⟩
    · have HB : Hid (bits .and .i64 n.mode 7 = ((bitsP n e : Nat) : Int)) := by show _ = _; rw [Mo.and7]; simp only [bitsP, c1, c2, if_false]; omega
      rw [← unhide HB] at HM2
      clear HB hB8
      obtain ⟨kd, md, us, gr, lk, ti, dt, tg, ls, pa⟩ := n
      obtain ⟨u, g, mk, dr⟩ := e
      simp only at a4 hk HM2 c1 c2
      have h0 : (u == 0) = false := by simpa using a4
      have h1 : (u == us) = false := by simpa using c1
      have h2 : (g == gr) = false := by simpa using c2
      clear a4 c1 c2
      unfold na ea
      go_enter Tryz.func41, Tryz.ntmps41
      go_wp2
      go_ret
      exact ⟨ret_b (unhide HM2), b2 _ _ _⟩
end Go.Proofs.YthmoinagfooncaaGreatDoor.Pm

/- What the document's In and Find answer. -/
namespace Go.Proofs.YthmoinagfooncaaGreatDoor.Tr
open Go.RowKit Go.Proofs.YthmoinagfooncaaGreatDoor.Cu

theorem find_first {es : List En} {t : ByteArray} (k : Nat) (hk : k < es.length) (hno : ∀ j, j < k → (en es j).name ≠ t) (h : (en es k).name = t) : findP es t = (en es k).node := by
  unfold findP
  have e1 : en es k = es[k] := by simp [en, List.getD, List.getElem?_eq_getElem hk]
  have hf : es.find? (fun e => decide (e.name = t)) = some es[k] := by
    rw [List.find?_eq_some_iff_getElem]
    refine ⟨by rw [← e1]; simpa using h, k, hk, rfl, fun j hj => ?_⟩
    have e2 : en es j = es[j] := by simp [en, List.getD, List.getElem?_eq_getElem (show j < es.length by omega)]
    have := hno j hj
    rw [e2] at this
    simpa using this
  rw [hf, e1]
def inP (ns : List Nd) (i : Int) (t : ByteArray) : Int := if i < 1 ∨ (ns.length : Int) ≤ i then 0 else findP (nd ns i.toNat).list t
set_option maxRecDepth 100000 in
set_option maxHeartbeats 1000000 in
theorem rin_any (a : Option Addr) (n cap : Nat) (ns : List Nd) (now i : Int) (t : ByteArray) (w : World) (h : Ng w a n cap ns) (hls : ∀ i, (nd ns i).list.length ≤ 1000000000) :
    Calls Tryz.prog 42 #[.agg #[.slice a n cap, .int .i64 now], .int .i64 i, .string t] w fun e w' => e = .returned (.int .i64 (inP ns i t)) ∧ Below w.heap.size w w' := by
  have HB1 : Hid (∀ o, Below w.heap.size w (w.alloc o)) := fun o => (Below.refl _ w).alloc (Nat.le_refl _) o
  by_cases a1 : i < 1
  · have hv : inP ns i t = 0 := if_pos (.inl a1)
    rw [hv]
    clear hv h
    go_enter Tryz.func42, Tryz.ntmps42
    go_wp2
    go_ret
    exact ⟨rfl, unhide HB1 _⟩
  by_cases a2 : (n : Int) ≤ i
  · have hv : inP ns i t = 0 := if_pos (.inr (by rw [h.len]; exact a2))
    rw [hv]
    clear hv h
    go_enter Tryz.func42, Tryz.ntmps42
    go_wp2
    go_ret
    exact ⟨rfl, unhide HB1 _⟩
  have hv : inP ns i t = findP (nd ns i.toNat).list t := if_neg (by rw [h.len]; omega)
  rw [hv]
  clear hv
  obtain ⟨x, rfl⟩ : ∃ x : Nat, i = (x : Int) := ⟨i.toNat, by omega⟩
  rw [Int.toNat_natCast]
  have hxn : x < n := by omega
  rcases h.cells with h0 | ⟨b, off, rfl, hb, hc⟩
  · omega
  obtain ⟨da, dc, la, lc, h10, -, heg⟩ := hc x hxn
  have hll0 := hls x
  obtain ⟨es, hes⟩ : ∃ es, es = (nd ns x).list := ⟨_, rfl⟩
  rw [← hes] at heg hll0 ⊢
  obtain ⟨ll, hll⟩ : ∃ ll, ll = es.length := ⟨_, rfl⟩
  have c8 := h10.c8
  rw [← hes, ← hll] at c8
  rw [← hll] at heg hll0
  have HL := hide hll
  have HF : Hid ((∀ k, k < ll → (en es k).name ≠ t) → findP es t = 0) := fun h => find_no (by rw [← hll]; exact h)
  have HG : Hid (∀ k, k < ll → (∀ j, j < k → (en es j).name ≠ t) → (en es k).name = t → findP es t = (en es k).node) := fun k hk h1 h2 => find_first k (by rw [← hll]; exact hk) h1 h2
  have HE := hide heg
  obtain ⟨R, hR⟩ : ∃ R, R = findP es t := ⟨_, rfl⟩
  rw [← hR] at HF HG ⊢
  clear h hc h10 hes hll heg hR hls
  go_enter Tryz.func42, Tryz.ntmps42
  go_wp2_with fail
  obtain ⟨W, hWe⟩ : ∃ W, W = w.alloc (.cells #[.slice (some ⟨b, off, none⟩) n cap, .int .i64 now] 24) := ⟨_, rfl⟩
  have HB2 : Hid (Below w.heap.size w W) := by rw [hWe]; exact unhide HB1 _
  have HE2 := hide ((unhide HE).below (unhide HB2))
  rw [← hWe]
  clear hWe HE HB1 c8
  go_loopw [8] (fun iv wr => ∃ k : Nat, k ≤ ll ∧ iv = .int .i64 k ∧ wr = W ∧ Hid (∀ j, j < k → (en es j).name ≠ t)) (fun iv _ => ll - (intOf iv).toNat)
  case atStart => exact ⟨0, Nat.zero_le _, rfl, rfl, fun j h => by omega⟩
  case round =>
    obtain ⟨k, hk, rfl, rfl, hno⟩ := hrel
    by_cases hlt : k < ll
    · have hlt' : (k : Int) < (ll : Int) := by omega
      rcases (unhide HE2).cells with h0 | ⟨lb, lo, rfl, hlb, hcc⟩
      · omega
      have e0 := (hcc k hlt).c0
      have e1 := (hcc k hlt).c1
      by_cases hn : (en es k).name = t
      · have hR := unhide HG k hlt (unhide hno) hn
        rw [hn] at e0
        rw [← hR] at e1
        clear hcc hR hn HF HG hno
        go_wp2
        go_ret
        exact ⟨rfl, unhide HB2⟩
      · have hno2 : Hid (∀ j, j < k + 1 → (en es j).name ≠ t) := fun j hj => by
          by_cases e : j = k
          · subst e; exact hn
          · exact unhide hno j (by omega)
        generalize (en es k).name = nm at *
        generalize (en es k).node = no at *
        have hnb := toList_ne hn
        clear hcc hno hn
        go_wp2
        go_roundw
        case rel => exact ⟨k + 1, by omega, by go_num, trivial, hno2⟩
        case measure => simp [intOf]; omega
    · have hlt' : ¬ (k : Int) < (ll : Int) := by omega
      obtain rfl : R = 0 := unhide HF fun j hj => unhide hno j (by omega)
      clear hno HF HG
      go_wp2
      go_ret
      exact ⟨rfl, unhide HB2⟩
theorem findV_is (now : Int) (ns : List Nd) (i : Int) (t : ByteArray) : findV now ns i t = if checkP now ns then inP ns i t else 0 := by
  cases hc : checkP now ns with
  | false =>
    have e : isDirP now ns i = false := by simp [isDirP, nodeP, hc]
    simp [findV, e]
  | true =>
    rw [if_pos rfl]
    by_cases h1 : i < 1
    · have e : isDirP now ns i = false := by simp only [isDirP, nodeP, show decide (0 < i) = false from decide_eq_false (by omega), Bool.and_false, Bool.false_and]
      have e2 : inP ns i t = 0 := if_pos (.inl h1)
      simp [findV, e, e2]
    by_cases h2 : (ns.length : Int) ≤ i
    · have e : isDirP now ns i = false := by simp only [isDirP, nodeP, show decide (i < (ns.length : Int)) = false from decide_eq_false (by omega), Bool.and_false, Bool.false_and]
      have e2 : inP ns i t = 0 := if_pos (.inr h2)
      simp [findV, e, e2]
    have e2 : inP ns i t = findP (nd ns i.toNat).list t := if_neg (by omega)
    rw [e2]
    by_cases hk : (nd ns i.toNat).kind = 2
    · have e : isDirP now ns i = true := by simp only [isDirP, nodeP, hc, hk, show decide (0 < i) = true from decide_eq_true (by omega), show decide (i < (ns.length : Int)) = true from decide_eq_true (by omega)]; decide
      simp [findV, e]
    · have hl := list_of_kind ((checkP_parts hc).2.2.2.2.2.1 i.toNat (by omega)) hk
      have e : isDirP now ns i = false := by simp [isDirP, hk]
      rw [List.eq_nil_of_length_eq_zero hl]
      simp [findV, e, findP]
end Go.Proofs.YthmoinagfooncaaGreatDoor.Tr
