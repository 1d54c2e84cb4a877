/- The law LinesWords's walk. -/
import Derived.Test.YtbamldjifempfabLnAlive
import Derived.Test.YtbamldjifempfabLnCPlain
import Derived.Test.YtbamldjifempfabBeyond
namespace Go.Proofs.Ytbamldjifempfab.Ln
open Go.RowKit Go.Shelf Pa

theorem wc_congr (p q : UInt8 → Bool) : ∀ (l : List UInt8) (b : Bool), (∀ c ∈ l, p c = q c) → wc p b l = wc q b l
  | [], _, _ => rfl
  | c :: l, b, h => by
    rw [wc, wc, h c (by simp), wc_congr p q l _ (fun c hc => h c (by simp [hc]))]
theorem wc_flat : ∀ (ps : List (List UInt8 × Bool)), (∀ q r, ps = q ++ r → r ≠ [] → ∀ x ∈ q, x.2 = true) → wc isSpace true (flat 10 ps) = (ps.map fun q => wc isSpace true q.1).sum
  | [], _ => rfl
  | (x, b) :: ps, h => by
    have ih := wc_flat ps (fun q r e hr y hy => h ((x, b) :: q) r (by rw [e]; rfl) hr y (by simp [hy]))
    cases b with
    | true =>
      have e : flat 10 ((x, true) :: ps) = x ++ 10 :: flat 10 ps := by simp [flat]
      rw [e, wc_app isSpace 10 rfl, ih]
      simp
    | false =>
      have : ps = [] := by
        refine Classical.byContradiction fun hne => ?_
        have := h [(x, false)] ps rfl hne (x, false) (by simp)
        cases this
      subst this
      simp [flat]
def noOdd (x : ByteArray) : Prop := ∀ k (h : k < x.size), ¬ (11 ≤ x[k].toNat ∧ x[k].toNat ≤ 13)
def nsum (ss : List ByteArray) : Nat := (ss.map fun x => (fieldsB 0 x).length).sum
theorem fieldsB_len (x : ByteArray) : (fieldsB 0 x).length = (runsOf (parts isBlank x.data.toList)).length := by simp [fieldsB, fieldsL]
theorem words_lines (s : ByteArray) (h : ∀ x ∈ linesB s, noOdd x) : (runsOf (parts isSpace s.data.toList)).length = nsum (linesB s) := by
  rw [wc_runs]
  have hf := flat_parts (p := isEnd) (d := 10) (fun c hc => by
    have : c.toNat = 10 := by simpa [isEnd] using hc
    exact UInt8.toNat_inj.1 this) s.data.toList
  have h1 := wc_flat (parts isEnd s.data.toList) (fun q r e hr => parts_ends isEnd _ q r e hr)
  rw [hf] at h1
  rw [h1]
  unfold nsum linesB
  rw [List.map_map]
  refine congrArg List.sum (List.map_congr_left fun q hq => ?_)
  show _ = (fieldsB 0 (bt q.1)).length
  rw [fieldsB_len, wc_runs]
  refine wc_congr _ _ _ _ fun c hc => ?_
  have h2 := parts_clean (p := isEnd) s.data.toList q hq c hc
  obtain ⟨k, hk, rfl⟩ := List.getElem_of_mem hc
  have h3 : ¬ (11 ≤ q.1[k].toNat ∧ q.1[k].toNat ≤ 13) := h (bt q.1) (List.mem_map.2 ⟨q, hq, rfl⟩) k hk
  have h4 : q.1[k].toNat ≠ 10 := by simpa [isEnd] using h2
  have e1 : isSpace q.1[k] = decide (q.1[k].toNat = 9 ∨ q.1[k].toNat = 32) := by
    unfold isSpace
    rw [Bool.eq_iff_iff]
    simp
    omega
  have e2 : isBlank q.1[k] = decide (q.1[k].toNat = 9 ∨ q.1[k].toNat = 32) := by
    unfold isBlank
    rw [Bool.eq_iff_iff]
    simp
    omega
  show isSpace q.1[k] = isBlank (bt q.1).data.toList[k]
  rw [e1]
  exact e2.symm

def most (ss : List ByteArray) : Nat := ss.foldl (fun m x => max m x.size) 0
theorem most_lines (s : ByteArray) : longN (parts isEnd s.data.toList) = most (linesB s) := by
  unfold longN most linesB
  rw [List.foldl_map]
  rfl
theorem most_snoc {ss : List ByteArray} {k : Nat} (h : k < ss.length) : most (ss.take (k + 1)) = max (most (ss.take k)) (ss.getD k ByteArray.empty).size := by
  have e : ss.getD k ByteArray.empty = ss[k] := by simp [List.getD, List.getElem?_eq_getElem h]
  rw [List.take_succ_eq_append_getElem h, e]
  unfold most
  rw [List.foldl_append]
  rfl
theorem nsum_snoc {ss : List ByteArray} {k : Nat} (h : k < ss.length) : nsum (ss.take (k + 1)) = nsum (ss.take k) + (fieldsB 0 (ss.getD k ByteArray.empty)).length := by
  have e : ss.getD k ByteArray.empty = ss[k] := by simp [List.getD, List.getElem?_eq_getElem h]
  rw [List.take_succ_eq_append_getElem h, e]
  unfold nsum
  rw [List.map_append, List.sum_append]
  simp
theorem nsum_le (ss : List ByteArray) : nsum ss ≤ tot ss := by
  induction ss with
  | nil => simp [nsum, tot]
  | cons x l ih =>
    have h1 : (fieldsB 0 x).length ≤ x.size := by rw [fieldsB_len]; exact Nat.le_trans (runsOf_len _) (parts_len _ _)
    simp only [nsum, List.map_cons, List.sum_cons, tot] at ih ⊢
    omega
theorem most_le (ss : List ByteArray) (n : Nat) (h : ∀ x ∈ ss, x.size ≤ n) : most ss ≤ n := by
  have : ∀ (l : List ByteArray) m, m ≤ n → (∀ x ∈ l, x.size ≤ n) → l.foldl (fun m x => max m x.size) m ≤ n := by
    intro l
    induction l with
    | nil => intro m hm _; exact hm
    | cons x l ih => intro m hm hl; exact ih (max m x.size) (by have := hl x (by simp); omega) (fun y hy => hl y (by simp [hy]))
  exact this ss 0 (Nat.zero_le _) h
theorem tot_linesB (s : ByteArray) : tot (linesB s) ≤ s.size := by
  have : ∀ ps : List (List UInt8 × Bool), tot (ps.map fun q => bt q.1) ≤ szs ps := by
    intro ps
    induction ps with
    | nil => simp [tot, szs]
    | cons q l ih =>
      have h1 : (bt q.1).size = q.1.length := rfl
      simp only [List.map_cons, tot, szs, List.sum_cons, sz, h1] at ih ⊢
      omega
  have h := this (parts isEnd s.data.toList)
  rw [szs_parts] at h
  exact h
theorem tot_mem' {ss : List ByteArray} {x : ByteArray} (h : x ∈ ss) : x.size ≤ tot ss := by
  induction ss with
  | nil => simp at h
  | cons s l ih =>
    simp only [tot]
    rcases List.mem_cons.1 h with rfl | h
    · omega
    · have := ih h; omega
theorem tot_takes (ss : List ByteArray) (k : Nat) : tot (ss.take k) ≤ tot ss := by
  induction ss generalizing k with
  | nil => simp
  | cons s l ih =>
    cases k with
    | zero => simp [tot]
    | succ k => simp only [List.take_succ_cons, tot]; have := ih k; omega

set_option maxRecDepth 100000 in
set_option maxHeartbeats 1000000 in
theorem linesWords_any (s : ByteArray) (w : World) (hs : s.size ≤ 4611686018427387904) :
    Calls Try.prog 6 #[.string s] w fun e w' => e = .returned (.bool true) ∧ Below w.heap.size w w' := by
  go_enter Try.func6, Try.ntmps6
  go_wp2_with fail
  refine (alive_any w).mono ?_
  rintro e w0 ⟨rfl, hB0⟩
  go_wp2_with fail
  refine (Beyond.beyond_one (s.size : Int) w0.heap.size _ (by simp) (by omega) (by omega)).mono ?_
  rintro e w' ⟨rfl, rfl⟩
  have hB1 : Below w.heap.size w (w0.alloc (.cells #[.int .i64 s.size] 3)) := hB0.alloc hB0.size _
  generalize (w0.alloc (.cells #[.int .i64 s.size] 3)) = w1 at *
  clear hB0
  by_cases hb : 1048576 < (s.size : Int)
  · go_wp2_with fail
    refine (alive_any w1).mono ?_
    rintro e w2 ⟨rfl, hB2⟩
    go_wp2_with fail
    go_ret
    exact ⟨rfl, hB1.trans (hB2.mono hB1.size)⟩
  · have C1 : Hid (∀ W, Calls Try.prog 16 #[.string s] W fun e w' => e = .returned (countAns s) ∧ Below W.heap.size W w') := fun W => count_any s W (by omega)
    have C2 : Hid (∀ W, _) := fun W => split_tx s W (by omega)
    have HW := hide (words_lines s)
    have HT2 := hide (tot_linesB s)
    have hn1 : (linesB s).length ≤ s.size := by rw [linesB_len]; exact parts_len _ _
    unfold countAns at C1
    rw [most_lines] at C1
    generalize (runsOf (parts isSpace s.data.toList)).length = x2 at *
    generalize endsN (parts isEnd s.data.toList) = x1 at *
    generalize lastB (parts isEnd s.data.toList) = lb at *
    generalize linesB s = ss at *
    obtain ⟨n, hn⟩ : ∃ n, n = ss.length := ⟨_, rfl⟩
    rw [← hn] at C2 hn1
    have HN := hide hn
    clear hn
    go_wp2_with fail
    refine (unhide C1 _).mono ?_
    rintro e w2 ⟨rfl, hb2⟩
    have hB2 : Below w.heap.size w w2 := hB1.trans (hb2.mono hB1.size)
    clear hB1 hb2 C1
    go_wp2_with fail
    refine (unhide C2 _).mono ?_
    rintro e w3 ⟨a, cap, rfl, hT, hb3⟩
    have hB3 : Below w.heap.size w w3 := hB2.trans (hb3.mono hB2.size)
    have HT := hide hT
    clear hB2 hb3 C2 hT
    go_wp2_with fail
    go_loopw [9, 10, 11, 12, 13] (fun vn vm vo vi _ wr => ∃ (k : Nat) (o : Bool), k ≤ n ∧ vi = .int .i64 k ∧ vn = .int .i64 (nsum (ss.take k)) ∧ vm = .int .i64 (most (ss.take k)) ∧ vo = .bool o ∧ Hid (o = false → ∀ j, j < k → noOdd (ss.getD j ByteArray.empty)) ∧ Hid (Below w3.heap.size w3 wr)) (fun _ _ _ vi _ _ => n - (intOf vi).toNat)
    case atStart => exact ⟨0, false, Nat.zero_le _, rfl, rfl, rfl, rfl, (fun _ j hj => by omega), Below.refl _ _⟩
    case round =>
      obtain ⟨k, o, hk, rfl, rfl, rfl, rfl, hod, hbw⟩ := hrel
      by_cases hlt : k < n
      · have hlt' : (k : Int) < (n : Int) := by omega
        have hks : k < ss.length := by rw [← unhide HN]; exact hlt
        obtain ⟨x, hx⟩ : ∃ x, x = ss.getD k ByteArray.empty := ⟨_, rfl⟩
        have hxm : x ∈ ss := by rw [hx, List.getD, List.getElem?_eq_getElem hks]; exact List.getElem_mem _
        have hxs : x.size ≤ s.size := Nat.le_trans (tot_mem' hxm) (unhide HT2)
        have hns := nsum_snoc hks
        have hms := most_snoc hks
        have hnl : nsum (ss.take (k + 1)) ≤ s.size := Nat.le_trans (nsum_le _) (Nat.le_trans (tot_takes _ _) (unhide HT2))
        have hml : most (ss.take k) ≤ s.size := most_le _ _ (fun y hy => Nat.le_trans (tot_mem' (List.mem_of_mem_take hy)) (unhide HT2))
        rw [← hx] at hns hms
        have C4 := hide (fields_tx x 0 wr (by omega) (by decide))
        rcases (unhide HT).cells with h0 | ⟨b, off, rfl, hbl, hc⟩
        · exfalso; omega
        · have hcx : wr.cell? ⟨b, off + k, none⟩ = some (.string x) := by rw [hx]; exact ((unhide hbw).cell hbl).trans (hc k hlt)
          have HX := hide hx
          clear hx hxm
          generalize nsum (ss.take k) = N1 at *
          generalize most (ss.take k) = M1 at *
          generalize (fieldsB 0 x).length = F1 at *
          obtain ⟨N2, hN2⟩ : ∃ N2, N2 = nsum (ss.take (k + 1)) := ⟨_, rfl⟩
          obtain ⟨M2, hM2⟩ : ∃ M2, M2 = most (ss.take (k + 1)) := ⟨_, rfl⟩
          rw [← hN2] at hns hnl
          rw [← hM2] at hms
          have hmm : ((M1 : Int) < x.size ∧ M2 = x.size) ∨ ((x.size : Int) ≤ M1 ∧ M2 = M1) := by omega
          have eN : (N2 : Int) = (N1 : Int) + (F1 : Int) := by omega
          have hNF : N1 + F1 ≤ s.size := by omega
          have HN2 := hide hN2
          have HM2 := hide hM2
          have HE := hide eN
          clear hN2 hM2 hms hns eN
          go_wp2_with fail
          refine (unhide C4).mono ?_
          rintro e w4 ⟨a4, c4, rfl, hT4, hb4⟩
          have hb4' : Hid (Below w3.heap.size w3 w4) := (unhide hbw).trans (hb4.mono (unhide hbw).size)
          have hcx4 : w4.cell? ⟨b, off + k, none⟩ = some (.string x) := ((unhide hb4').cell hbl).trans (by rw [unhide HX]; exact hc k hlt)
          have HC := hide hc
          clear hcx hbw hb4 hT4 C4 hc
          rcases hmm with ⟨hm1, rfl⟩ | ⟨hm1, rfl⟩
          all_goals
            go_wp2_with fail
            go_loopw [11, 13] (fun vo vj wr' => ∃ (m : Nat) (o' : Bool), m ≤ x.size ∧ vj = .int .i64 m ∧ vo = .bool o' ∧ Hid (o' = false → o = false ∧ ∀ q (h : q < x.size), q < m → ¬ (11 ≤ x[q].toNat ∧ x[q].toNat ≤ 13)) ∧ wr' = w4) (fun _ vj _ => x.size - (intOf vj).toNat)
            case atStart => exact ⟨0, o, Nat.zero_le _, rfl, rfl, (fun h => ⟨h, fun q _ hq => by omega⟩), rfl⟩
            case round =>
              obtain ⟨m, o', hm, rfl, rfl, hcm, hww⟩ := hrel
              subst hww
              by_cases hml : m < x.size
              · have hml' : (m : Int) < (x.size : Int) := by omega
                cases o'
                · by_cases hby : 11 ≤ x[m].toNat ∧ x[m].toNat ≤ 13
                  · have hb1 : (11 : Int) ≤ x[m].toNat := by omega
                    have hb2 : (x[m].toNat : Int) ≤ 13 := by omega
                    clear hby hcm
                    go_wp2_with fail
                    go_roundw
                    case rel => exact ⟨m + 1, true, by omega, by go_num, rfl, (fun h => by cases h), by simp⟩
                    case measure => simp [intOf]; omega
                  · have hcm2 : Hid (false = false → o = false ∧ ∀ q (h : q < x.size), q < m + 1 → ¬ (11 ≤ x[q].toNat ∧ x[q].toNat ≤ 13)) := fun _ => ⟨(unhide hcm rfl).1, fun q h hq => by
                      by_cases e : q = m
                      · subst e; exact hby
                      · exact (unhide hcm rfl).2 q h (by omega)⟩
                    clear hcm
                    by_cases hb1 : 11 ≤ x[m].toNat
                    · have hb1' : (11 : Int) ≤ x[m].toNat := by omega
                      have hb2 : ¬ (x[m].toNat : Int) ≤ 13 := by omega
                      clear hby hb1
                      go_wp2_with fail
                      go_roundw
                      case rel => exact ⟨m + 1, false, by omega, by go_num, rfl, hcm2, by simp⟩
                      case measure => simp [intOf]; omega
                    · have hb1' : ¬ (11 : Int) ≤ x[m].toNat := by omega
                      clear hby hb1
                      go_wp2_with fail
                      go_roundw
                      case rel => exact ⟨m + 1, false, by omega, by go_num, rfl, hcm2, by simp⟩
                      case measure => simp [intOf]; omega
                · clear hcm
                  go_wp2_with fail
                  go_roundw
                  case rel => exact ⟨m + 1, true, by omega, by go_num, rfl, (fun h => by cases h), by simp⟩
                  case measure => simp [intOf]; omega
              · have hml' : ¬ (m : Int) < (x.size : Int) := by omega
                have hod2 : Hid (o' = false → ∀ j, j < k + 1 → noOdd (ss.getD j ByteArray.empty)) := fun h j hj => by
                  obtain ⟨h1, h2⟩ := unhide hcm h
                  by_cases e : j = k
                  · subst e; rw [← unhide HX]; exact fun q hq => h2 q hq (by omega)
                  · exact unhide hod h1 j (by omega)
                clear hcm hod
                go_wp2_with fail
                go_roundw
                case rel => exact ⟨k + 1, o', by omega, by go_num, by rw [← unhide HN2, unhide HE], by rw [← unhide HM2], rfl, hod2, hb4'⟩
                case measure => simp [intOf]; omega
      · have hkn : k = n := by omega
        subst hkn
        have e : ss.take k = ss := List.take_of_length_le (by rw [← unhide HN]; omega)
        rw [e]
        have hBw : Below w.heap.size w wr := hB3.trans ((unhide hbw).mono hB3.size)
        cases o
        · have hw2 : x2 = nsum ss := unhide HW (fun y hy => by
            obtain ⟨j, hj, rfl⟩ := List.getElem_of_mem hy
            have := unhide hod rfl j (by rw [unhide HN]; exact hj)
            rwa [List.getD, List.getElem?_eq_getElem hj] at this)
          subst hw2
          clear e hod hbw HW
          go_wp2_with fail
          go_ret
          exact ⟨rfl, hBw⟩
        · clear e hod hbw HW
          go_wp2_with fail
          go_ret
          exact ⟨rfl, hBw⟩
end Go.Proofs.Ytbamldjifempfab.Ln
