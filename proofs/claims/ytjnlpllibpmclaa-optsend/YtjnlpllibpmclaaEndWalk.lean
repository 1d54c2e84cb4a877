/- The law OptsEnd's walk. -/
import Derived.Test.YtjnlpllibpmclaaOnto
namespace Go.Proofs.Ytjnlpllibpmclaa.Pa
open Go.RowKit

theorem lets_nx (K : Int → Int) (t : List UInt8) (f : Fl) (r : Fl × Bool) (h : lets K none t f = some r) : r.2 = false ∧ ∀ nx, lets K nx t f = some r := by
  induction t generalizing f with
  | nil => simp only [lets, Option.some.injEq] at h; subst h; exact ⟨rfl, fun _ => rfl⟩
  | cons c t ih =>
    simp only [lets] at h ⊢
    by_cases h1 : K c.toNat = 1
    · simp only [h1, if_true] at h ⊢
      exact ih _ h
    · by_cases h2 : K c.toNat = 2
      · simp only [h2, if_true] at h ⊢
        by_cases h3 : t = []
        · simp [h3] at h
        · simp only [h3, if_false] at h ⊢
          simp at h
          subst h
          exact ⟨rfl, fun _ => rfl⟩
      · simp [h1, h2] at h

theorem lets_len (K : Int → Int) (nx : Option ByteArray) (t : List UInt8) (f f' : Fl) (b : Bool) (h : lets K nx t f = some (f', b)) : f'.length ≤ f.length + t.length := by
  induction t generalizing f with
  | nil => simp only [lets, Option.some.injEq, Prod.mk.injEq] at h; obtain ⟨rfl, _⟩ := h; simp
  | cons c t ih =>
    simp only [lets] at h
    split at h
    · have := ih _ h
      simp at this ⊢
      omega
    · split at h
      · split at h
        · split at h
          · cases h
          · simp at h; obtain ⟨rfl, _⟩ := h; simp
        · simp at h; obtain ⟨rfl, _⟩ := h; simp
      · cases h
theorem words_len (K : Int → Int) : ∀ (m : Nat) (ss : List ByteArray) (f fl : Fl) (rest : List ByteArray), ss.length ≤ m → words K ss f = some (fl, rest) → fl.length ≤ f.length + tot ss := by
  intro m
  induction m with
  | zero =>
    intro ss f fl rest hm h
    have : ss = [] := List.eq_nil_of_length_eq_zero (by omega)
    subst this
    simp only [words, Option.some.injEq, Prod.mk.injEq] at h
    obtain ⟨rfl, _⟩ := h
    simp
  | succ m ih =>
    intro ss f fl rest hm h
    cases ss with
    | nil =>
      simp only [words, Option.some.injEq, Prod.mk.injEq] at h
      obtain ⟨rfl, _⟩ := h
      simp
    | cons w ws =>
      rw [words_cons] at h
      split at h
      · simp only [Option.some.injEq, Prod.mk.injEq] at h; obtain ⟨rfl, _⟩ := h; simp
      · split at h
        · cases hl : lets K ws.head? (w.data.toList.drop 1) f with
          | none => rw [hl] at h; cases h
          | some r =>
            obtain ⟨f1, bb⟩ := r
            have h1 := lets_len K _ _ _ _ _ hl
            have h2 : (w.data.toList.drop 1).length ≤ w.size := by
              rw [List.length_drop]; have : w.data.toList.length = w.size := rfl; omega
            rw [hl] at h
            simp only [tot]
            cases bb with
            | false =>
              have h3 := ih ws f1 fl rest (by simp at hm; omega) h
              omega
            | true =>
              cases ws with
              | nil => cases h
              | cons x ws =>
                have h3 := ih ws f1 fl rest (by simp at hm; omega) h
                simp only [tot]
                omega
        · simp only [Option.some.injEq, Prod.mk.injEq] at h; obtain ⟨rfl, _⟩ := h; simp
theorem parse_len (which : ByteArray) (ss : List ByteArray) (fl : Fl) (rest : List ByteArray) (er : Int) (h : parse which ss = (fl, rest, er)) : fl.length ≤ tot ss := by
  unfold parse at h
  cases hK : rd which.data.toList (fun _ => 0) with
  | none => rw [hK] at h; simp only [Prod.mk.injEq] at h; obtain ⟨rfl, _⟩ := h; simp
  | some K =>
    rw [hK] at h
    by_cases h256 : 256 < ss.length
    · simp only [h256, if_true, Prod.mk.injEq] at h; obtain ⟨rfl, _⟩ := h; simp
    · simp only [h256, if_false] at h
      cases hw : words K ss [] with
      | none => rw [hw] at h; simp only [Prod.mk.injEq] at h; obtain ⟨rfl, _⟩ := h; simp
      | some r =>
        obtain ⟨f1, r1⟩ := r
        rw [hw] at h
        simp only [Prod.mk.injEq] at h
        obtain ⟨rfl, _⟩ := h
        simpa using words_len K ss.length ss [] f1 r1 (Nat.le_refl _) hw

def dash : ByteArray := { data := #[45, 45] }
theorem words_end (K : Int → Int) (rest : List ByteArray) : ∀ (m : Nat) (ss : List ByteArray) (f0 fl : Fl), ss.length ≤ m → words K ss f0 = some (fl, []) → (∀ s ∈ ss, s.data.toList ≠ [45, 45]) →
    words K (ss ++ dash :: rest) f0 = some (fl, rest) := by
  intro m
  induction m with
  | zero =>
    intro ss f0 fl hm h _
    have : ss = [] := List.eq_nil_of_length_eq_zero (by omega)
    subst this
    simp only [words, Option.some.injEq, Prod.mk.injEq] at h
    obtain ⟨rfl, _⟩ := h
    rw [List.nil_append, words_cons, if_pos (show dash.data.toList = [45, 45] from rfl)]
  | succ m ih =>
    intro ss f0 fl hm h hno
    cases ss with
    | nil =>
      simp only [words, Option.some.injEq, Prod.mk.injEq] at h
      obtain ⟨rfl, _⟩ := h
      rw [List.nil_append, words_cons, if_pos (show dash.data.toList = [45, 45] from rfl)]
    | cons w ws =>
      have hw := hno w (by simp)
      rw [words_cons, if_neg hw] at h
      rw [List.cons_append, words_cons, if_neg hw]
      by_cases ho : isOpt w.data.toList = true
      · rw [if_pos ho] at h ⊢
        cases ws with
        | nil =>
          cases hl : lets K none (w.data.toList.drop 1) f0 with
          | none => rw [show ([] : List ByteArray).head? = none from rfl, hl] at h; cases h
          | some r =>
            obtain ⟨r1, r2⟩ := lets_nx K _ _ _ hl
            rw [show ([] : List ByteArray).head? = none from rfl, hl] at h
            rw [r2]
            obtain ⟨f1, bb⟩ := r
            simp only at r1
            subst r1
            have h' : words K [] f1 = some (fl, []) := h
            exact ih [] f1 fl (by simp) h' (by simp)
        | cons x ws =>
          rw [show (x :: ws).head? = some x from rfl] at h
          rw [show (x :: ws ++ dash :: rest).head? = some x from rfl]
          cases hl : lets K (some x) (w.data.toList.drop 1) f0 with
          | none => rw [hl] at h; cases h
          | some r =>
            obtain ⟨f1, bb⟩ := r
            rw [hl] at h
            cases bb with
            | false => exact ih (x :: ws) f1 fl (by simp at hm ⊢; omega) h (fun s hs => hno s (by simp at hs ⊢; exact .inr hs))
            | true => exact ih ws f1 fl (by simp at hm ⊢; omega) h (fun s hs => hno s (by simp; exact .inr (.inr hs)))
      · rw [if_neg ho] at h
        simp at h

/-- the words, with a double dash behind them and more words behind that -/
theorem parse_end (which : ByteArray) (ss rest : List ByteArray) (fl : Fl) (h : parse which ss = (fl, [], 0)) (hno : ∀ s ∈ ss, s.data.toList ≠ [45, 45]) (hn : ss.length + rest.length ≤ 200) :
    parse which (ss ++ dash :: rest) = (fl, rest, 0) := by
  unfold parse at h
  cases hK : rd which.data.toList (fun _ => 0) with
  | none => rw [hK] at h; simp at h
  | some K =>
    rw [hK] at h
    simp only [show ¬ 256 < ss.length from by omega, if_false] at h
    refine parse_ok hK (by simp; omega) ?_
    cases hw : words K ss [] with
    | none => rw [hw] at h; simp at h
    | some r =>
      obtain ⟨f1, r1⟩ := r
      rw [hw] at h
      simp only [Prod.mk.injEq] at h
      obtain ⟨rfl, rfl, _⟩ := h
      exact words_end K rest ss.length ss [] f1 (Nat.le_refl _) hw hno

theorem tx_empty {w : World} {a : Option Addr} {n cap : Nat} {ss : List ByteArray} (h : Tx w a n cap ss) : a = none → n = 0 ∧ cap = 0 := h.nil
theorem tx_src {w : World} {a : Option Addr} {n cap : Nat} {ss : List ByteArray} (h : Tx w a n cap ss) : ∀ ad, a = some ad → ∀ j u, (ss.map Value.string)[j]? = some u → w.cell? (ad.add j) = some u := by
  intro ad ha j u hu
  have hl := h.len
  have hj : j < n := by
    rcases Nat.lt_or_ge j n with hj | hj
    · exact hj
    · rw [List.getElem?_eq_none (by simp; omega)] at hu; cases hu
  rcases h.cells with h0 | ⟨b, off, e, _, hc⟩
  · omega
  · rw [e] at ha
    cases ha
    rw [add_none, hc j hj]
    rw [List.getElem?_map, List.getElem?_eq_getElem (by omega)] at hu
    simp only [Option.map_some, Option.some.injEq] at hu
    rw [← hu]
    simp [List.getD, List.getElem?_eq_getElem (show j < ss.length by omega)]
theorem tx_own_n {w : World} {base n : Nat} {v : Value} {ss : List ByteArray} {e : TypeId} (h : w.ownsRow base e 1 v n (ss.map Value.string)) (hl : ss.length = n) : ∃ a cap, v = .slice a n cap ∧ Tx w a n cap ss := by
  subst hl; exact tx_of_owns h
theorem parse_isn {which : ByteArray} {ss : List ByteArray} {fl : Fl} {rest : List ByteArray} {er : Int} (lf lr : Nat) (hp : parse which ss = (fl, rest, er)) (hlf : fl.length = lf) (hlr : rest.length = lr) (a : Option Addr) (n cap : Nat) (w : World) (hT : Tx w a n cap ss) (hs : which.size ≤ 4611686018427387900) (hn : n ≤ 4611686018427387900)
    (hss : ∀ s ∈ ss, s.size ≤ maxLen) (htot : (∀ s, ss.head? = some s → isOpt s.data.toList = true) → tot ss ≤ 4194304) :
    Calls Try.prog 12 #[.string which, .slice a n cap] w fun e w' => (∃ af cf at' ct, e = .returned (.tuple #[.slice af lf cf, .slice at' lr ct, .int .i64 er]) ∧ Fx w' af lf fl ∧ Tx w' at' lr ct rest) ∧ Below w.heap.size w w' := by
  subst hlf hlr
  exact parse_is hp a n cap w hT hs hn hss htot
theorem one_new (w : World) (x : Value) (e : TypeId) : ∀ ad, some (⟨w.heap.size, 0, none⟩ : Addr) = some ad → ∀ j u, [x][j]? = some u → (w.alloc (.cells #[x] e)).cell? (ad.add j) = some u := by
  intro ad he j u hj
  cases he
  match j, hj with
  | 0, hj => simp at hj; subst hj; simp [Addr.add]

set_option maxHeartbeats 2000000 in
set_option maxRecDepth 100000 in
theorem end_walk (which : ByteArray) (a1 a2 : Option Addr) (n1 c1 n2 c2 : Nat) (ss1 ss2 : List ByteArray) (w : World) (h1 : Tx w a1 n1 c1 ss1) (h2 : Tx w a2 n2 c2 ss2) (hw : which.size ≤ 4611686018427387900)
    (hn1 : n1 ≤ 4611686018427387 ) (hn2 : n2 ≤ 4611686018427387) (hs1 : ∀ s ∈ ss1, s.size ≤ 4611686018427387900) (hs2 : ∀ s ∈ ss2, s.size ≤ 4611686018427387900) :
    Calls Try.prog 3 #[.string which, .slice a1 n1 c1, .slice a2 n2 c2] w fun e w' => e = .returned (.bool true) ∧ Below w.heap.size w w' := by
  have H1 := hide h1
  have H2 := hide h2
  have S1 := hide hs1
  have S2 := hide hs2
  have L1 := hide h1.len
  have L2 := hide h2.len
  clear h1 h2 hs1 hs2
  obtain ⟨i1, hi1, hy0, hy1, hy2⟩ := info_parts Try.infoStr
  by_cases hbig : 200 < (n1 : Int) + (n2 : Int)
  · go_enter Try.func3, Try.ntmps3
    go_wp2_with fail
    refine (alive_any _).mono ?_
    rintro e w1 ⟨rfl, hb1⟩
    go_wp2_with fail
    refine (alive_any _).mono ?_
    rintro e w2 ⟨rfl, hb2⟩
    go_wp2_with fail
    go_ret
    exact ⟨rfl, hb1.trans (hb2.mono hb1.size)⟩
  · by_cases hwb : 2000 < (which.size : Int)
    · go_enter Try.func3, Try.ntmps3
      go_wp2_with fail
      refine (alive_any _).mono ?_
      rintro e w1 ⟨rfl, hb1⟩
      go_wp2_with fail
      refine (alive_any _).mono ?_
      rintro e w2 ⟨rfl, hb2⟩
      go_wp2_with fail
      go_ret
      exact ⟨rfl, hb1.trans (hb2.mono hb1.size)⟩
    · go_enter Try.func3, Try.ntmps3
      go_wp2_with fail
      refine (alive_any _).mono ?_
      rintro e w1 ⟨rfl, hb1⟩
      have G1 : Hid (Tx w1 a1 n1 c1 ss1) := (unhide H1).below hb1
      have G2 : Hid (Tx w1 a2 n2 c2 ss2) := (unhide H2).below hb1
      clear H1 H2
      go_wp2_with fail
      refine (textsSize_any a1 n1 c1 c1 ss1 _ (unhide G1) (by omega) (fun s hs => by have := unhide S1 s hs; omega)).mono ?_
      rintro e w2 ⟨⟨v1, rfl, hv1, hv1', ht1⟩, rfl⟩
      have T1 := hide ht1
      clear ht1
      go_wp2_with fail
      refine (textsSize_any a2 n2 c2 c2 ss2 _ (unhide G2) (by omega) (fun s hs => by have := unhide S2 s hs; omega)).mono ?_
      rintro e w3 ⟨⟨v2, rfl, hv2, hv2', ht2⟩, rfl⟩
      have T2 := hide ht2
      clear ht2
      by_cases hsum : 1048576 < v1 + v2
      · go_wp2_with fail
        refine (beyond_two v1 v2 _ _ (by simp) (by simp) (by omega) (by omega) (by omega) (by omega)).mono ?_
        rintro e w4 ⟨rfl, rfl⟩
        go_wp2_with fail
        refine (alive_any _).mono ?_
        rintro e w5 ⟨rfl, hb5⟩
        go_wp2_with fail
        go_ret
        exact ⟨rfl, (hb1.alloc hb1.size _).trans (hb5.mono (by have := hb1.size; simp; omega))⟩
      · have htt : tot ss1 + tot ss2 ≤ 2097152 := by
          have e1 := unhide T1 (by omega)
          have e2 := unhide T2 (by omega)
          omega
        have HTT := hide htt
        clear htt T1 T2
        go_wp2_with fail
        refine (beyond_two v1 v2 _ _ (by simp) (by simp) (by omega) (by omega) (by omega) (by omega)).mono ?_
        rintro e w4 ⟨rfl, hw4⟩
        have hb4 : Below w3.heap.size w3 w4 := by rw [hw4]; exact (Below.refl _ _).alloc (Nat.le_refl _) _
        have hB4 : Below w.heap.size w w4 := hb1.trans (hb4.mono hb1.size)
        have F1 : Hid (Tx w4 a1 n1 c1 ss1) := (unhide G1).below hb4
        have F2 : Hid (Tx w4 a2 n2 c2 ss2) := (unhide G2).below hb4
        clear hw4 hb4 G1 G2 hb1
        obtain ⟨fl, left, er, hp⟩ : ∃ fl left er, parse which ss1 = (fl, left, er) := ⟨_, _, _, rfl⟩
        obtain ⟨lf, hlf⟩ : ∃ lf, fl.length = lf := ⟨_, rfl⟩
        obtain ⟨lr, hlr⟩ : ∃ lr, left.length = lr := ⟨_, rfl⟩
        have HP := hide hp
        have HLF := hide hlf
        have HLR := hide hlr
        clear hp hlf hlr
        go_wp2_with fail
        refine (parse_isn lf lr (unhide HP) (unhide HLF) (unhide HLR) _ _ _ _ (unhide F1) (by omega) (by omega) (fun s hs => by have := unhide S1 s hs; unfold maxLen; omega) (fun _ => by have := unhide HTT; omega)).mono ?_
        rintro e w5 ⟨⟨af, cf, at', ct, rfl, hF, hT⟩, hb5⟩
        have HF := hide hF
        have hB5 : Below w.heap.size w w5 := hB4.trans (hb5.mono hB4.size)
        have E1 : Hid (Tx w5 a1 n1 c1 ss1) := (unhide F1).below hb5
        have E2 : Hid (Tx w5 a2 n2 c2 ss2) := (unhide F2).below hb5
        clear hF hT hb5 F1 F2 hB4
        by_cases her : er = 0
        · subst her
          by_cases hl0 : 0 < (lr : Int)
          · go_wp2_with fail
            go_ret
            exact ⟨rfl, hB5⟩
          · obtain rfl : lr = 0 := by omega
            obtain rfl : left = [] := List.eq_nil_of_length_eq_zero (unhide HLR)
            go_wp2_with fail
            go_loop [10] (fun i => ∃ k : Nat, k ≤ n1 ∧ i = .int .i64 k ∧ Hid (∀ j, j < k → (ss1.getD j ByteArray.empty).data.toList ≠ [45, 45])) (fun i => n1 - (intOf i).toNat)
            case atStart => exact ⟨0, Nat.zero_le _, rfl, fun j hj => absurd hj (Nat.not_lt_zero _)⟩
            case round =>
              obtain ⟨k, hk, rfl, hno⟩ := hrel
              by_cases hlt : k < n1
              · obtain ⟨b, off, rfl, hbl, hcs⟩ : ∃ b off, a1 = some ⟨b, off, none⟩ ∧ b < w5.heap.size ∧ ∀ i, i < n1 → w5.cell? ⟨b, off + i, none⟩ = some (.string (ss1.getD i ByteArray.empty)) := by
                  rcases (unhide E1).cells with h | h
                  · omega
                  · exact h
                have hcx := hcs k hlt
                clear hcs
                obtain ⟨x, hx⟩ : ∃ x, x = ss1.getD k ByteArray.empty := ⟨_, rfl⟩
                rw [← hx] at hcx
                by_cases hd : x.data.toList = [45, 45]
                · have hy : (x.toList == [45, 45]) = true := by rw [ByteArray.toList_eq, hd]; rfl
                  clear hd hx
                  go_wp2_with fail
                  go_ret
                  exact ⟨rfl, hB5⟩
                · have hy : (x.toList == [45, 45]) = false := by rw [ByteArray.toList_eq]; simpa using hd
                  have hno2 : Hid (∀ j, j < k + 1 → (ss1.getD j ByteArray.empty).data.toList ≠ [45, 45]) := by
                    intro j hj
                    by_cases e : j < k
                    · exact unhide hno j e
                    · obtain rfl : j = k := by omega
                      rw [← hx]; exact hd
                  clear hd hx hno
                  go_wp2_with fail
                  go_round
                  case rel => exact ⟨k + 1, by omega, by go_num, hno2⟩
                  case measure => simp [intOf]; omega
              · have hno2 : ∀ s ∈ ss1, s.data.toList ≠ [45, 45] := by
                  intro s hs
                  obtain ⟨j, hj, rfl⟩ := List.getElem_of_mem hs
                  have := unhide hno j (by rw [unhide L1] at hj; omega)
                  simpa [List.getD, List.getElem?_eq_getElem hj] using this
                have HP2 := hide (parse_end which ss1 ss2 fl (unhide HP) hno2 (by rw [unhide L1, unhide L2]; omega))
                have htot2 : Hid (tot (ss1 ++ dash :: ss2) ≤ 4194304) := by
                  show _ ≤ _
                  have := unhide HTT
                  have e2 : tot (dash :: ss2) = 2 + tot ss2 := rfl
                  rw [tot_append, e2]; omega
                have hsm : Hid (∀ s ∈ ss1 ++ dash :: ss2, s.size ≤ maxLen) := small_mem _ (unhide htot2)
                have hlen : Hid ((ss1 ++ dash :: ss2).length = n1 + 1 + n2) := by
                  show _ = _
                  rw [List.length_append, List.length_cons, unhide L1, unhide L2]; omega
                clear hno hno2
                go_wp2_with (first
                  | (at_builtin; refine wpList_append_onto rfl (.tmp 64) (.tmp 65) 22 rfl w5.heap.size 9 i1 _ 1 16 Try.underlying22 hi1 hy0 hy1 hy2 rfl (by decide) (.slice none 0 0) 0 [] rfl (World.ownsRow_nil _ _ _ _) a1 n1 c1 (ss1.map Value.string) rfl (unhide E1).nil (by simp [unhide L1]) (by exact tx_src (unhide E1)) (texts_one _) (by unfold maxLen; omega) (by omega) (Nat.le_refl _) ?_; intro va w6 hown6 hg6; simp only [Nat.zero_add, List.nil_append] at hown6; have hb6 : Below w5.heap.size w5 w6 := (Below.refl _ _).grown hg6 (Nat.le_refl _) (by simp [Value.ownBlock]); have HO6 := hide hown6; clear hown6 hg6)
                  | (at_builtin; refine wpList_append_onto rfl (.tmp 67) (.tmp 68) 22 rfl w5.heap.size 9 i1 _ 1 16 Try.underlying22 hi1 hy0 hy1 hy2 rfl (by decide) va n1 (ss1.map Value.string) rfl ((unhide HO6).alloc _) (some ⟨w6.heap.size, 0, none⟩) 1 1 [.string { data := #[45, 45] }] rfl (by simp) rfl (by exact one_new _ _ _) (by intro u hu; simp at hu; subst hu; rfl) (by unfold maxLen; omega) (by omega) (by have := hb6.size; simp; omega) ?_; intro vb w7 hown7 hg7; have hb7 : Below w5.heap.size w5 w7 := (hb6.alloc hb6.size _).grown hg7 (by have := hb6.size; simp; omega) (fun j hj => ((unhide HO6).lt j hj).1); have HO7 := hide hown7; have E27 := hide ((unhide E2).below hb7); clear hown7 hg7)
                  | (at_builtin; refine wpList_append_onto rfl (.tmp 70) (.tmp 71) 22 rfl w5.heap.size 9 i1 _ 1 16 Try.underlying22 hi1 hy0 hy1 hy2 rfl (by decide) vb (n1 + 1) (ss1.map Value.string ++ [.string { data := #[45, 45] }]) rfl (unhide HO7) a2 n2 c2 (ss2.map Value.string) rfl (unhide E27).nil (by simp [unhide L2]) (by exact tx_src (unhide E27)) (texts_one _) (by unfold maxLen; omega) (by omega) hb7.size ?_; intro vc w8 hown8 hg8; have hb8 : Below w5.heap.size w5 w8 := hb7.grown hg8 hb7.size (fun j hj => ((unhide HO7).lt j hj).1); have hown9 : w8.ownsRow w5.heap.size 9 1 vc (n1 + 1 + n2) ((ss1 ++ dash :: ss2).map Value.string) := (by simpa [dash] using hown8); obtain ⟨ac, cc, rfl, hTc⟩ := tx_own_n hown9 (unhide hlen); have HC := hide hTc; clear hown8 hown9 hTc hg8))
                refine (parse_isn lf n2 (unhide HP2) (unhide HLF) (unhide L2) _ _ _ _ (unhide HC) (by omega) (by omega) (unhide hsm) (fun _ => unhide htot2)).mono ?_
                rintro e w9 ⟨⟨ag, cg, ah, ch, rfl, hF2, hT2⟩, hb9⟩
                have hb59 : Below w5.heap.size w5 w9 := hb8.trans (hb9.mono hb8.size)
                have hB9 : Below w.heap.size w w9 := hB5.trans (hb59.mono hB5.size)
                have HF9 := hide ((unhide HF).below hb59)
                have HE9 := hide ((unhide E2).below hb59)
                have HF2 := hide hF2
                have HT2 := hide hT2
                clear hF2 hT2 hb9 hb59 hb8 hb7 hb6 HO6 HO7 E27 HC HF E2
                go_wp2_with fail
                refine (sameFlags_any _ _ lf _ _ fl _ ?_ (unhide HF9) (unhide HF2)).mono ?_
                · have e1 := parse_len _ _ _ _ _ (unhide HP)
                  rw [unhide HLF] at e1
                  have e2 := unhide HTT
                  omega
                rintro e w10 ⟨rfl, hb10⟩
                have hB10 : Below w.heap.size w w10 := hB9.trans (hb10.mono hB9.size)
                have HT10 := hide ((unhide HT2).below hb10)
                have HE10 := hide ((unhide HE9).below hb10)
                clear hb10 HF9 HF2 HT2 HE9 hB9
                go_wp2_with fail
                refine (sameTexts_any _ _ n2 _ _ ch c2 ss2 _ (by omega) (unhide HT10) (unhide HE10)).mono ?_
                rintro e w11 ⟨rfl, hb11⟩
                have hB11 : Below w.heap.size w w11 := hB10.trans (hb11.mono hB10.size)
                clear hb11 HT10 HE10 hB10
                go_wp2_with fail
                go_ret
                exact ⟨rfl, hB11⟩
        · have hx : (er != 0) = true := by simpa using her
          clear her
          go_wp2_with fail
          go_ret
          exact ⟨rfl, hB5⟩
end Go.Proofs.Ytjnlpllibpmclaa.Pa
