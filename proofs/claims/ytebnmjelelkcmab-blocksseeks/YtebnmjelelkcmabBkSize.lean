/- What Size answers. -/
import Derived.Test.YtebnmjelelkcmabBkPlain
import Derived.Test.YtebnmjelelkcmabNumOpts
set_option linter.unusedVariables false
namespace Go.Proofs.Ytebnmjelelkcmab.Bk
open Go.RowKit Cu Plain

def szT (s : Bs) : Int := if s.getLast? = some 107 then 1024 else if s.getLast? = some 98 then 512 else 1
def szD (s : Bs) : Bs := if s.getLast? = some 107 ∨ s.getLast? = some 98 then s.dropLast else s
def szB (s : Bs) : Bool := (decide (1 ≤ (szD s).length) && decide ((szD s).length ≤ 10)) && ((szD s).all dig && decide (nval (szD s) * szT s ≤ 2147483647))
def szV (s : Bs) : Int := if szB s = true then nval (szD s) * szT s else 0
def szA (s : Bs) : Value := .tuple #[.int .i64 (szV s), .bool (szB s)]

def suf (p s : Bs) : Bool := decide (p.length ≤ s.length) && decide (s.drop (s.length - p.length) = p)
def pre (p s : Bs) : Bool := decide (s.take p.length = p)
theorem suf_one (c : UInt8) (s : Bs) : suf [c] s = decide (s.getLast? = some c) := by
  unfold suf
  rw [Bool.eq_iff_iff]
  simp
  constructor
  · rintro ⟨h1, h2⟩
    have h3 : s.length - 1 < s.length := by omega
    rw [List.drop_eq_getElem_cons h3] at h2
    rw [List.getLast?_eq_getElem?, List.getElem?_eq_getElem h3]
    injection h2 with h2
    rw [h2]
  · intro h
    have h3 : 0 < s.length := by
      cases s with
      | nil => simp at h
      | cons => simp
    refine ⟨h3, ?_⟩
    have h4 : s.length - 1 < s.length := by omega
    rw [List.getLast?_eq_getElem?, List.getElem?_eq_getElem h4] at h
    rw [List.drop_eq_getElem_cons h4, Option.some.inj h, List.drop_eq_nil_of_le (by omega)]
theorem pre_one (c : UInt8) (s : Bs) : pre [c] s = decide (s.head? = some c) := by
  unfold pre
  cases s with
  | nil => simp
  | cons d r => simp

theorem hasPrefix_any (s p : ByteArray) (w : World) (hs : s.size ≤ 9223372036854775807) (hp : p.size ≤ 100) :
    Calls Try.prog 25 #[.string s, .string p] w fun e w' => e = .returned (.bool (pre (bs p) (bs s))) ∧ w' = w := by
  by_cases h : p.size ≤ s.size
  · have h' : (p.size : Int) ≤ (s.size : Int) := by omega
    go_enter Try.func25, Try.ntmps25
    go_wp2
    go_ret
    refine ⟨congrArg (fun b => Ending.returned (.bool b)) ?_, rfl⟩
    show ((s.extract 0 p.size).toList == p.toList) = _
    rw [ByteArray.toList_eq, ByteArray.toList_eq]
    show (bs (s.extract 0 p.size) == bs p) = _
    rw [bs_to, pre, bs_len, Bool.eq_iff_iff]
    simp
  · have h' : ¬ (p.size : Int) ≤ (s.size : Int) := by omega
    go_enter Try.func25, Try.ntmps25
    go_wp2
    go_ret
    refine ⟨congrArg (fun b => Ending.returned (.bool b)) ?_, rfl⟩
    show false = _
    unfold pre
    symm
    rw [decide_eq_false_iff_not]
    intro e
    have := congrArg List.length e
    rw [List.length_take, bs_len, bs_len] at this
    omega
theorem hasPre_any (s p : ByteArray) (b : Bool) (w : World) (hs : s.size ≤ 9223372036854775807) (hp : p.size ≤ 100) (h : pre (bs p) (bs s) = b) :
    Calls Try.prog 15 #[.string s, .string p] w fun e w' => e = .returned (.bool b) ∧ w' = w := by
  have HH : Hid (∀ W, Calls Try.prog 25 #[.string s, .string p] W fun e w' => e = .returned (.bool b) ∧ w' = W) := fun W => h ▸ hasPrefix_any s p W hs hp
  clear h
  go_enter Try.func15, Try.ntmps15
  go_wp2_with (go_at_call 25; refine (unhide HH _).mono ?_; rintro e w' ⟨rfl, rfl⟩)
  go_ret
  exact ⟨rfl, rfl⟩
theorem hasSuffix_any (s p : ByteArray) (w : World) (hs : s.size ≤ 9223372036854775807) (hp : p.size ≤ 100) :
    Calls Try.prog 33 #[.string s, .string p] w fun e w' => e = .returned (.bool (suf (bs p) (bs s))) ∧ w' = w := by
  by_cases h : p.size ≤ s.size
  · have h' : (p.size : Int) ≤ (s.size : Int) := by omega
    have h1 : 0 ≤ (s.size : Int) - (p.size : Int) := by omega
    have h2 : (s.size : Int) - (p.size : Int) ≤ (s.size : Int) := by omega
    have e1 : ((s.size : Int) - (p.size : Int)).toNat = s.size - p.size := by omega
    go_enter Try.func33, Try.ntmps33
    go_wp2
    go_ret
    refine ⟨congrArg (fun b => Ending.returned (.bool b)) ?_, rfl⟩
    show ((s.extract (s.size - p.size) s.size).toList == p.toList) = _
    rw [ByteArray.toList_eq, ByteArray.toList_eq]
    show (bs (s.extract (s.size - p.size) s.size) == bs p) = _
    rw [bs_from, suf, bs_len, bs_len, Bool.eq_iff_iff]
    simp [h]
  · have h' : ¬ (p.size : Int) ≤ (s.size : Int) := by omega
    go_enter Try.func33, Try.ntmps33
    go_wp2
    go_ret
    refine ⟨congrArg (fun b => Ending.returned (.bool b)) ?_, rfl⟩
    show false = _
    unfold suf
    rw [bs_len, bs_len]
    simp [h]
theorem cutSuffix_b (s p d : ByteArray) (b : Bool) (w : World) (hs : s.size ≤ 9223372036854775807) (hp : p.size ≤ 100) (h : suf (bs p) (bs s) = b) (hd : d = if b = true then s.extract 0 (s.size - p.size) else s) :
    Calls Try.prog 14 #[.string s, .string p] w fun e w' => e = .returned (.tuple #[.string d, .bool b]) ∧ w' = w := by
  have HH : Hid (∀ W, Calls Try.prog 33 #[.string s, .string p] W fun e w' => e = .returned (.bool b) ∧ w' = W) := fun W => h ▸ hasSuffix_any s p W hs hp
  subst hd
  cases b
  · clear h
    go_enter Try.func14, Try.ntmps14
    go_wp2_with (first | (go_at_call 33; refine (unhide HH _).mono ?_; rintro e w' ⟨rfl, rfl⟩) | (go_at_call 24; go_in))
    go_ret2
    exact ⟨rfl, rfl⟩
  · have hle : p.size ≤ s.size := by
      unfold suf at h
      rw [bs_len, bs_len] at h
      simp at h
      exact h.1
    have h1 : 0 ≤ (s.size : Int) - (p.size : Int) := by omega
    have h2 : (s.size : Int) - (p.size : Int) ≤ (s.size : Int) := by omega
    have e1 : ((s.size : Int) - (p.size : Int)).toNat = s.size - p.size := by omega
    clear h
    go_enter Try.func14, Try.ntmps14
    go_wp2_with (first | (go_at_call 33; refine (unhide HH _).mono ?_; rintro e w' ⟨rfl, rfl⟩) | (go_at_call 24; go_in))
    go_ret2
    exact ⟨rfl, rfl⟩

/-! ### which way a word goes -/
theorem num_plain (d : ByteArray) (h1 : pre [43] (bs d) = false) (h2 : pre [45] (bs d) = false) (hl : d.size ≤ 10) : NumWalks.numAns d = .tuple #[.int .i64 (if okD (bs d) = true then nval (bs d) else 0), .bool (okD (bs d))] := by
  rw [pre_one] at h1 h2
  have hd : digs (bs d) = bs d := by
    cases h : bs d with
    | nil => rfl
    | cons c r =>
      rw [h] at h1 h2
      simp at h1 h2
      have e1 : ¬ c.toNat = 45 := fun e => h2 (UInt8.toNat_inj.1 (by simpa using e))
      have e2 : ¬ c.toNat = 43 := fun e => h1 (UInt8.toNat_inj.1 (by simpa using e))
      simp [digs, e1, e2]
  have hn : neg (bs d) = false := by
    cases h : bs d with
    | nil => rfl
    | cons c r =>
      rw [h] at h2
      simp at h2
      have e1 : ¬ c.toNat = 45 := fun e => h2 (UInt8.toNat_inj.1 (by simpa using e))
      simp [neg, e1]
  unfold NumWalks.numAns Plain.numV numB
  rw [hd, hn]
  simp
theorem pre_dig (c : UInt8) (d : Bs) (h : pre [c] d = true) (hc : dig c = false) : d.all dig = false := by
  rw [pre_one] at h
  cases d with
  | nil => simp at h
  | cons x r =>
    simp at h
    subst h
    simp [hc]
/-- the answer, by the digits and the times -/
def fin (d : Bs) (T : Int) : Bool := (decide (1 ≤ d.length) && decide (d.length ≤ 10)) && (d.all dig && decide (nval d * T ≤ 2147483647))
def finA (d : Bs) (T : Int) : Value := .tuple #[.int .i64 (if fin d T = true then nval d * T else 0), .bool (fin d T)]
theorem finA_no {d : Bs} {T : Int} (h : fin d T = false) : finA d T = .tuple #[.int .i64 0, .bool false] := by unfold finA; rw [h]; rfl
theorem finA_yes {d : Bs} {T : Int} (h : fin d T = true) : finA d T = .tuple #[.int .i64 (nval d * T), .bool true] := by unfold finA; rw [h]; rfl
theorem quo_le (n : Int) : (2147483647 / 1024 < n ↔ 2147483647 < n * 1024) ∧ (2147483647 / 512 < n ↔ 2147483647 < n * 512) := by omega
set_option maxRecDepth 100000 in
set_option maxHeartbeats 1000000 in
theorem size_k (s d : ByteArray) (w : World) (hs : s.size ≤ 9223372036854775807) (hds : d.size ≤ s.size)
    (hC : ∀ W, Calls Try.prog 14 #[.string s, .string ⟨#[107]⟩] W fun e w' => e = .returned (.tuple #[.string d, .bool true]) ∧ w' = W) :
    Calls Try.prog 9 #[.string s] w fun e w' => e = .returned (finA (bs d) 1024) ∧ w' = w := by
  have HC := hide hC
  have HC2 := HC
  clear hC
  by_cases hl : d.size ≤ 10
  · have hl' : ¬ (10 : Int) < (d.size : Int) := by omega
    cases h1 : pre [43] (bs d)
    · have C1 := hide (fun W => hasPre_any d ⟨#[43]⟩ false W (by omega) (by decide) h1)
      cases h2 : pre [45] (bs d)
      · have C2 := hide (fun W => hasPre_any d ⟨#[45]⟩ false W (by omega) (by decide) h2)
        have CN := hide (fun W => NumWalks.number_any d W (by unfold maxLen; omega))
        rw [num_plain d h1 h2 hl] at CN
        clear h1 h2
        cases ho : okD (bs d)
        · have hf : fin (bs d) 1024 = false := by
            unfold okD at ho
            unfold fin
            rw [bs_len] at *
            cases hall : (bs d).all dig
            · simp
            · rw [hall] at ho
              simp at ho
              simp
              omega
          rw [finA_no hf]
          rw [ho] at CN
          clear hf ho
          go_enter Try.func9, Try.ntmps9
          go_wp2_with (first | (go_at_call 14; first | (with_reducible refine (unhide HC _).mono ?_; rintro e w' ⟨rfl, rfl⟩) | (with_reducible refine (unhide HC2 _).mono ?_; rintro e w' ⟨rfl, rfl⟩)) | (go_at_call 15; first | (with_reducible refine (unhide C1 _).mono ?_; rintro e w' ⟨rfl, rfl⟩) | (with_reducible refine (unhide C2 _).mono ?_; rintro e w' ⟨rfl, rfl⟩)) | (go_at_call 16; refine (unhide CN _).mono ?_; rintro e w' ⟨rfl, rfl⟩))
          go_ret2
          exact ⟨rfl, rfl⟩
        · have hall : (bs d).all dig = true := by unfold okD at ho; simp only [Bool.and_eq_true] at ho; exact ho.2
          have hpos : 1 ≤ (bs d).length := by unfold okD at ho; simp only [Bool.and_eq_true, decide_eq_true_eq] at ho; exact ho.1.1
          obtain ⟨v0, v1⟩ := nval_lt (bs d) hall 10 (by rw [bs_len]; exact hl)
          simp only [Int.reducePow] at v1
          rw [ho] at CN
          have hq := quo_le (nval (bs d))
          have HF : Hid (fin (bs d) 1024 = decide (nval (bs d) * 1024 ≤ 2147483647)) := by
            unfold fin
            have h10 : (bs d).length ≤ 10 := by rw [bs_len]; exact hl
            rw [hall, decide_eq_true hpos, decide_eq_true h10]
            exact rfl
          clear ho hall hpos
          by_cases hg : nval (bs d) * 1024 ≤ 2147483647
          · rw [finA_yes ((unhide HF).trans (by simpa using hg))]
            clear HF
            generalize nval (bs d) = V at *
            simp only [if_true] at CN
            have hg2 : ¬ 2147483647 / 1024 < V := by omega
            clear hq
            go_enter Try.func9, Try.ntmps9
            go_wp2_with (first | (go_at_call 14; first | (with_reducible refine (unhide HC _).mono ?_; rintro e w' ⟨rfl, rfl⟩) | (with_reducible refine (unhide HC2 _).mono ?_; rintro e w' ⟨rfl, rfl⟩)) | (go_at_call 15; first | (with_reducible refine (unhide C1 _).mono ?_; rintro e w' ⟨rfl, rfl⟩) | (with_reducible refine (unhide C2 _).mono ?_; rintro e w' ⟨rfl, rfl⟩)) | (go_at_call 16; refine (unhide CN _).mono ?_; rintro e w' ⟨rfl, rfl⟩))
            go_ret2
            exact ⟨by first | rfl | (simp; done) | go_num, rfl⟩
          · rw [finA_no ((unhide HF).trans (by simpa using hg))]
            clear HF
            generalize nval (bs d) = V at *
            simp only [if_true] at CN
            have hg2 : 2147483647 / 1024 < V := by omega
            clear hq
            go_enter Try.func9, Try.ntmps9
            go_wp2_with (first | (go_at_call 14; first | (with_reducible refine (unhide HC _).mono ?_; rintro e w' ⟨rfl, rfl⟩) | (with_reducible refine (unhide HC2 _).mono ?_; rintro e w' ⟨rfl, rfl⟩)) | (go_at_call 15; first | (with_reducible refine (unhide C1 _).mono ?_; rintro e w' ⟨rfl, rfl⟩) | (with_reducible refine (unhide C2 _).mono ?_; rintro e w' ⟨rfl, rfl⟩)) | (go_at_call 16; refine (unhide CN _).mono ?_; rintro e w' ⟨rfl, rfl⟩))
            go_ret2
            exact ⟨rfl, rfl⟩
      · have C2 := hide (fun W => hasPre_any d ⟨#[45]⟩ true W (by omega) (by decide) h2)
        have hf : fin (bs d) 1024 = false := by unfold fin; rw [pre_dig 45 _ h2 (by decide)]; simp
        rw [finA_no hf]
        have CN : Hid True := trivial
        clear h1 h2 hf
        go_enter Try.func9, Try.ntmps9
        go_wp2_with (first | (go_at_call 14; first | (with_reducible refine (unhide HC _).mono ?_; rintro e w' ⟨rfl, rfl⟩) | (with_reducible refine (unhide HC2 _).mono ?_; rintro e w' ⟨rfl, rfl⟩)) | (go_at_call 15; first | (with_reducible refine (unhide C1 _).mono ?_; rintro e w' ⟨rfl, rfl⟩) | (with_reducible refine (unhide C2 _).mono ?_; rintro e w' ⟨rfl, rfl⟩)) | (go_at_call 16; refine (unhide CN _).mono ?_; rintro e w' ⟨rfl, rfl⟩))
        go_ret2
        exact ⟨rfl, rfl⟩
    · have C1 := hide (fun W => hasPre_any d ⟨#[43]⟩ true W (by omega) (by decide) h1)
      have hf : fin (bs d) 1024 = false := by unfold fin; rw [pre_dig 43 _ h1 (by decide)]; simp
      rw [finA_no hf]
      clear h1 hf
      go_enter Try.func9, Try.ntmps9
      go_wp2_with (first | (go_at_call 14; first | (with_reducible refine (unhide HC _).mono ?_; rintro e w' ⟨rfl, rfl⟩) | (with_reducible refine (unhide HC2 _).mono ?_; rintro e w' ⟨rfl, rfl⟩)) | (go_at_call 15; first | (with_reducible refine (unhide C1 _).mono ?_; rintro e w' ⟨rfl, rfl⟩) | (with_reducible refine (unhide C2 _).mono ?_; rintro e w' ⟨rfl, rfl⟩)) | (go_at_call 16; refine (unhide CN _).mono ?_; rintro e w' ⟨rfl, rfl⟩))
      go_ret2
      exact ⟨rfl, rfl⟩
  · have hl' : (10 : Int) < (d.size : Int) := by omega
    have hf : fin (bs d) 1024 = false := by
      unfold fin
      rw [bs_len]
      simp [hl]
    rw [finA_no hf]
    clear hf hl
    go_enter Try.func9, Try.ntmps9
    go_wp2_with (first | (go_at_call 14; first | (with_reducible refine (unhide HC _).mono ?_; rintro e w' ⟨rfl, rfl⟩) | (with_reducible refine (unhide HC2 _).mono ?_; rintro e w' ⟨rfl, rfl⟩)) | (go_at_call 15; first | (with_reducible refine (unhide C1 _).mono ?_; rintro e w' ⟨rfl, rfl⟩) | (with_reducible refine (unhide C2 _).mono ?_; rintro e w' ⟨rfl, rfl⟩)) | (go_at_call 16; refine (unhide CN _).mono ?_; rintro e w' ⟨rfl, rfl⟩))
    go_ret2
    exact ⟨rfl, rfl⟩
set_option maxRecDepth 100000 in
set_option maxHeartbeats 1000000 in
theorem size_b (s d : ByteArray) (w : World) (hs : s.size ≤ 9223372036854775807) (hds : d.size ≤ s.size)
    (hC : ∀ W, Calls Try.prog 14 #[.string s, .string ⟨#[107]⟩] W fun e w' => e = .returned (.tuple #[.string s, .bool false]) ∧ w' = W) (hC2 : ∀ W, Calls Try.prog 14 #[.string s, .string ⟨#[98]⟩] W fun e w' => e = .returned (.tuple #[.string d, .bool true]) ∧ w' = W) :
    Calls Try.prog 9 #[.string s] w fun e w' => e = .returned (finA (bs d) 512) ∧ w' = w := by
  have HC := hide hC
  have HC2 := hide hC2
  clear hC hC2
  by_cases hl : d.size ≤ 10
  · have hl' : ¬ (10 : Int) < (d.size : Int) := by omega
    cases h1 : pre [43] (bs d)
    · have C1 := hide (fun W => hasPre_any d ⟨#[43]⟩ false W (by omega) (by decide) h1)
      cases h2 : pre [45] (bs d)
      · have C2 := hide (fun W => hasPre_any d ⟨#[45]⟩ false W (by omega) (by decide) h2)
        have CN := hide (fun W => NumWalks.number_any d W (by unfold maxLen; omega))
        rw [num_plain d h1 h2 hl] at CN
        clear h1 h2
        cases ho : okD (bs d)
        · have hf : fin (bs d) 512 = false := by
            unfold okD at ho
            unfold fin
            rw [bs_len] at *
            cases hall : (bs d).all dig
            · simp
            · rw [hall] at ho
              simp at ho
              simp
              omega
          rw [finA_no hf]
          rw [ho] at CN
          clear hf ho
          go_enter Try.func9, Try.ntmps9
          go_wp2_with (first | (go_at_call 14; first | (with_reducible refine (unhide HC _).mono ?_; rintro e w' ⟨rfl, rfl⟩) | (with_reducible refine (unhide HC2 _).mono ?_; rintro e w' ⟨rfl, rfl⟩)) | (go_at_call 15; first | (with_reducible refine (unhide C1 _).mono ?_; rintro e w' ⟨rfl, rfl⟩) | (with_reducible refine (unhide C2 _).mono ?_; rintro e w' ⟨rfl, rfl⟩)) | (go_at_call 16; refine (unhide CN _).mono ?_; rintro e w' ⟨rfl, rfl⟩))
          go_ret2
          exact ⟨rfl, rfl⟩
        · have hall : (bs d).all dig = true := by unfold okD at ho; simp only [Bool.and_eq_true] at ho; exact ho.2
          have hpos : 1 ≤ (bs d).length := by unfold okD at ho; simp only [Bool.and_eq_true, decide_eq_true_eq] at ho; exact ho.1.1
          obtain ⟨v0, v1⟩ := nval_lt (bs d) hall 10 (by rw [bs_len]; exact hl)
          simp only [Int.reducePow] at v1
          rw [ho] at CN
          have hq := quo_le (nval (bs d))
          have HF : Hid (fin (bs d) 512 = decide (nval (bs d) * 512 ≤ 2147483647)) := by
            unfold fin
            have h10 : (bs d).length ≤ 10 := by rw [bs_len]; exact hl
            rw [hall, decide_eq_true hpos, decide_eq_true h10]
            exact rfl
          clear ho hall hpos
          by_cases hg : nval (bs d) * 512 ≤ 2147483647
          · rw [finA_yes ((unhide HF).trans (by simpa using hg))]
            clear HF
            generalize nval (bs d) = V at *
            simp only [if_true] at CN
            have hg2 : ¬ 2147483647 / 512 < V := by omega
            clear hq
            go_enter Try.func9, Try.ntmps9
            go_wp2_with (first | (go_at_call 14; first | (with_reducible refine (unhide HC _).mono ?_; rintro e w' ⟨rfl, rfl⟩) | (with_reducible refine (unhide HC2 _).mono ?_; rintro e w' ⟨rfl, rfl⟩)) | (go_at_call 15; first | (with_reducible refine (unhide C1 _).mono ?_; rintro e w' ⟨rfl, rfl⟩) | (with_reducible refine (unhide C2 _).mono ?_; rintro e w' ⟨rfl, rfl⟩)) | (go_at_call 16; refine (unhide CN _).mono ?_; rintro e w' ⟨rfl, rfl⟩))
            go_ret2
            exact ⟨by first | rfl | (simp; done) | go_num, rfl⟩
          · rw [finA_no ((unhide HF).trans (by simpa using hg))]
            clear HF
            generalize nval (bs d) = V at *
            simp only [if_true] at CN
            have hg2 : 2147483647 / 512 < V := by omega
            clear hq
            go_enter Try.func9, Try.ntmps9
            go_wp2_with (first | (go_at_call 14; first | (with_reducible refine (unhide HC _).mono ?_; rintro e w' ⟨rfl, rfl⟩) | (with_reducible refine (unhide HC2 _).mono ?_; rintro e w' ⟨rfl, rfl⟩)) | (go_at_call 15; first | (with_reducible refine (unhide C1 _).mono ?_; rintro e w' ⟨rfl, rfl⟩) | (with_reducible refine (unhide C2 _).mono ?_; rintro e w' ⟨rfl, rfl⟩)) | (go_at_call 16; refine (unhide CN _).mono ?_; rintro e w' ⟨rfl, rfl⟩))
            go_ret2
            exact ⟨rfl, rfl⟩
      · have C2 := hide (fun W => hasPre_any d ⟨#[45]⟩ true W (by omega) (by decide) h2)
        have hf : fin (bs d) 512 = false := by unfold fin; rw [pre_dig 45 _ h2 (by decide)]; simp
        rw [finA_no hf]
        have CN : Hid True := trivial
        clear h1 h2 hf
        go_enter Try.func9, Try.ntmps9
        go_wp2_with (first | (go_at_call 14; first | (with_reducible refine (unhide HC _).mono ?_; rintro e w' ⟨rfl, rfl⟩) | (with_reducible refine (unhide HC2 _).mono ?_; rintro e w' ⟨rfl, rfl⟩)) | (go_at_call 15; first | (with_reducible refine (unhide C1 _).mono ?_; rintro e w' ⟨rfl, rfl⟩) | (with_reducible refine (unhide C2 _).mono ?_; rintro e w' ⟨rfl, rfl⟩)) | (go_at_call 16; refine (unhide CN _).mono ?_; rintro e w' ⟨rfl, rfl⟩))
        go_ret2
        exact ⟨rfl, rfl⟩
    · have C1 := hide (fun W => hasPre_any d ⟨#[43]⟩ true W (by omega) (by decide) h1)
      have hf : fin (bs d) 512 = false := by unfold fin; rw [pre_dig 43 _ h1 (by decide)]; simp
      rw [finA_no hf]
      clear h1 hf
      go_enter Try.func9, Try.ntmps9
      go_wp2_with (first | (go_at_call 14; first | (with_reducible refine (unhide HC _).mono ?_; rintro e w' ⟨rfl, rfl⟩) | (with_reducible refine (unhide HC2 _).mono ?_; rintro e w' ⟨rfl, rfl⟩)) | (go_at_call 15; first | (with_reducible refine (unhide C1 _).mono ?_; rintro e w' ⟨rfl, rfl⟩) | (with_reducible refine (unhide C2 _).mono ?_; rintro e w' ⟨rfl, rfl⟩)) | (go_at_call 16; refine (unhide CN _).mono ?_; rintro e w' ⟨rfl, rfl⟩))
      go_ret2
      exact ⟨rfl, rfl⟩
  · have hl' : (10 : Int) < (d.size : Int) := by omega
    have hf : fin (bs d) 512 = false := by
      unfold fin
      rw [bs_len]
      simp [hl]
    rw [finA_no hf]
    clear hf hl
    go_enter Try.func9, Try.ntmps9
    go_wp2_with (first | (go_at_call 14; first | (with_reducible refine (unhide HC _).mono ?_; rintro e w' ⟨rfl, rfl⟩) | (with_reducible refine (unhide HC2 _).mono ?_; rintro e w' ⟨rfl, rfl⟩)) | (go_at_call 15; first | (with_reducible refine (unhide C1 _).mono ?_; rintro e w' ⟨rfl, rfl⟩) | (with_reducible refine (unhide C2 _).mono ?_; rintro e w' ⟨rfl, rfl⟩)) | (go_at_call 16; refine (unhide CN _).mono ?_; rintro e w' ⟨rfl, rfl⟩))
    go_ret2
    exact ⟨rfl, rfl⟩
set_option maxRecDepth 100000 in
set_option maxHeartbeats 1000000 in
theorem size_n (s d : ByteArray) (w : World) (hs : s.size ≤ 9223372036854775807) (hds : d.size ≤ s.size)
    (hC : ∀ W, Calls Try.prog 14 #[.string s, .string ⟨#[107]⟩] W fun e w' => e = .returned (.tuple #[.string s, .bool false]) ∧ w' = W) (hC2 : ∀ W, Calls Try.prog 14 #[.string s, .string ⟨#[98]⟩] W fun e w' => e = .returned (.tuple #[.string s, .bool false]) ∧ w' = W) (hd : d = s) :
    Calls Try.prog 9 #[.string s] w fun e w' => e = .returned (finA (bs d) 1) ∧ w' = w := by
  have HC := hide hC
  have HC2 := hide hC2
  subst hd
  clear hC hC2
  by_cases hl : d.size ≤ 10
  · have hl' : ¬ (10 : Int) < (d.size : Int) := by omega
    cases h1 : pre [43] (bs d)
    · have C1 := hide (fun W => hasPre_any d ⟨#[43]⟩ false W (by omega) (by decide) h1)
      cases h2 : pre [45] (bs d)
      · have C2 := hide (fun W => hasPre_any d ⟨#[45]⟩ false W (by omega) (by decide) h2)
        have CN := hide (fun W => NumWalks.number_any d W (by unfold maxLen; omega))
        rw [num_plain d h1 h2 hl] at CN
        clear h1 h2
        cases ho : okD (bs d)
        · have hf : fin (bs d) 1 = false := by
            unfold okD at ho
            unfold fin
            rw [bs_len] at *
            cases hall : (bs d).all dig
            · simp
            · rw [hall] at ho
              simp at ho
              simp
              omega
          rw [finA_no hf]
          rw [ho] at CN
          clear hf ho
          go_enter Try.func9, Try.ntmps9
          go_wp2_with (first | (go_at_call 14; first | (with_reducible refine (unhide HC _).mono ?_; rintro e w' ⟨rfl, rfl⟩) | (with_reducible refine (unhide HC2 _).mono ?_; rintro e w' ⟨rfl, rfl⟩)) | (go_at_call 15; first | (with_reducible refine (unhide C1 _).mono ?_; rintro e w' ⟨rfl, rfl⟩) | (with_reducible refine (unhide C2 _).mono ?_; rintro e w' ⟨rfl, rfl⟩)) | (go_at_call 16; refine (unhide CN _).mono ?_; rintro e w' ⟨rfl, rfl⟩))
          go_ret2
          exact ⟨rfl, rfl⟩
        · have hall : (bs d).all dig = true := by unfold okD at ho; simp only [Bool.and_eq_true] at ho; exact ho.2
          have hpos : 1 ≤ (bs d).length := by unfold okD at ho; simp only [Bool.and_eq_true, decide_eq_true_eq] at ho; exact ho.1.1
          obtain ⟨v0, v1⟩ := nval_lt (bs d) hall 10 (by rw [bs_len]; exact hl)
          simp only [Int.reducePow] at v1
          rw [ho] at CN
          have hq := quo_le (nval (bs d))
          have HF : Hid (fin (bs d) 1 = decide (nval (bs d) * 1 ≤ 2147483647)) := by
            unfold fin
            have h10 : (bs d).length ≤ 10 := by rw [bs_len]; exact hl
            rw [hall, decide_eq_true hpos, decide_eq_true h10]
            exact rfl
          clear ho hall hpos
          by_cases hg : nval (bs d) * 1 ≤ 2147483647
          · rw [finA_yes ((unhide HF).trans (by simpa using hg))]
            clear HF
            generalize nval (bs d) = V at *
            simp only [if_true] at CN
            have hg2 : ¬ 2147483647 / 1 < V := by omega
            clear hq
            go_enter Try.func9, Try.ntmps9
            go_wp2_with (first | (go_at_call 14; first | (with_reducible refine (unhide HC _).mono ?_; rintro e w' ⟨rfl, rfl⟩) | (with_reducible refine (unhide HC2 _).mono ?_; rintro e w' ⟨rfl, rfl⟩)) | (go_at_call 15; first | (with_reducible refine (unhide C1 _).mono ?_; rintro e w' ⟨rfl, rfl⟩) | (with_reducible refine (unhide C2 _).mono ?_; rintro e w' ⟨rfl, rfl⟩)) | (go_at_call 16; refine (unhide CN _).mono ?_; rintro e w' ⟨rfl, rfl⟩))
            go_ret2
            exact ⟨by first | rfl | (simp; done) | go_num, rfl⟩
          · rw [finA_no ((unhide HF).trans (by simpa using hg))]
            clear HF
            generalize nval (bs d) = V at *
            simp only [if_true] at CN
            have hg2 : 2147483647 / 1 < V := by omega
            clear hq
            go_enter Try.func9, Try.ntmps9
            go_wp2_with (first | (go_at_call 14; first | (with_reducible refine (unhide HC _).mono ?_; rintro e w' ⟨rfl, rfl⟩) | (with_reducible refine (unhide HC2 _).mono ?_; rintro e w' ⟨rfl, rfl⟩)) | (go_at_call 15; first | (with_reducible refine (unhide C1 _).mono ?_; rintro e w' ⟨rfl, rfl⟩) | (with_reducible refine (unhide C2 _).mono ?_; rintro e w' ⟨rfl, rfl⟩)) | (go_at_call 16; refine (unhide CN _).mono ?_; rintro e w' ⟨rfl, rfl⟩))
            go_ret2
            exact ⟨rfl, rfl⟩
      · have C2 := hide (fun W => hasPre_any d ⟨#[45]⟩ true W (by omega) (by decide) h2)
        have hf : fin (bs d) 1 = false := by unfold fin; rw [pre_dig 45 _ h2 (by decide)]; simp
        rw [finA_no hf]
        have CN : Hid True := trivial
        clear h1 h2 hf
        go_enter Try.func9, Try.ntmps9
        go_wp2_with (first | (go_at_call 14; first | (with_reducible refine (unhide HC _).mono ?_; rintro e w' ⟨rfl, rfl⟩) | (with_reducible refine (unhide HC2 _).mono ?_; rintro e w' ⟨rfl, rfl⟩)) | (go_at_call 15; first | (with_reducible refine (unhide C1 _).mono ?_; rintro e w' ⟨rfl, rfl⟩) | (with_reducible refine (unhide C2 _).mono ?_; rintro e w' ⟨rfl, rfl⟩)) | (go_at_call 16; refine (unhide CN _).mono ?_; rintro e w' ⟨rfl, rfl⟩))
        go_ret2
        exact ⟨rfl, rfl⟩
    · have C1 := hide (fun W => hasPre_any d ⟨#[43]⟩ true W (by omega) (by decide) h1)
      have hf : fin (bs d) 1 = false := by unfold fin; rw [pre_dig 43 _ h1 (by decide)]; simp
      rw [finA_no hf]
      clear h1 hf
      go_enter Try.func9, Try.ntmps9
      go_wp2_with (first | (go_at_call 14; first | (with_reducible refine (unhide HC _).mono ?_; rintro e w' ⟨rfl, rfl⟩) | (with_reducible refine (unhide HC2 _).mono ?_; rintro e w' ⟨rfl, rfl⟩)) | (go_at_call 15; first | (with_reducible refine (unhide C1 _).mono ?_; rintro e w' ⟨rfl, rfl⟩) | (with_reducible refine (unhide C2 _).mono ?_; rintro e w' ⟨rfl, rfl⟩)) | (go_at_call 16; refine (unhide CN _).mono ?_; rintro e w' ⟨rfl, rfl⟩))
      go_ret2
      exact ⟨rfl, rfl⟩
  · have hl' : (10 : Int) < (d.size : Int) := by omega
    have hf : fin (bs d) 1 = false := by
      unfold fin
      rw [bs_len]
      simp [hl]
    rw [finA_no hf]
    clear hf hl
    go_enter Try.func9, Try.ntmps9
    go_wp2_with (first | (go_at_call 14; first | (with_reducible refine (unhide HC _).mono ?_; rintro e w' ⟨rfl, rfl⟩) | (with_reducible refine (unhide HC2 _).mono ?_; rintro e w' ⟨rfl, rfl⟩)) | (go_at_call 15; first | (with_reducible refine (unhide C1 _).mono ?_; rintro e w' ⟨rfl, rfl⟩) | (with_reducible refine (unhide C2 _).mono ?_; rintro e w' ⟨rfl, rfl⟩)) | (go_at_call 16; refine (unhide CN _).mono ?_; rintro e w' ⟨rfl, rfl⟩))
    go_ret2
    exact ⟨rfl, rfl⟩

theorem bs_cut (s : ByteArray) : bs (s.extract 0 (s.size - 1)) = (bs s).dropLast := by
  rw [bs_to, List.dropLast_eq_take, bs_len]
theorem size_any (s : ByteArray) (w : World) (hs : s.size ≤ 9223372036854775807) : Calls Try.prog 9 #[.string s] w fun e w' => e = .returned (szA (bs s)) ∧ w' = w := by
  have hle : (s.extract 0 (s.size - 1)).size ≤ s.size := by rw [← bs_len, bs_cut, List.length_dropLast, bs_len]; omega
  have k1 := suf_one 107 (bs s)
  have b1 := suf_one 98 (bs s)
  have e0 : szA (bs s) = finA (szD (bs s)) (szT (bs s)) := rfl
  rw [e0]
  by_cases hk : (bs s).getLast? = some 107
  · rw [show szD (bs s) = bs (s.extract 0 (s.size - 1)) by rw [bs_cut]; unfold szD; rw [if_pos (.inl hk)], show szT (bs s) = 1024 by unfold szT; rw [if_pos hk]]
    exact size_k s _ w hs hle (fun W => cutSuffix_b s ⟨#[107]⟩ _ true W hs (by decide) (by rw [show bs ⟨#[107]⟩ = [107] from rfl, k1, decide_eq_true hk]) rfl)
  · have hC := fun W => cutSuffix_b s ⟨#[107]⟩ s false W hs (by decide) (by rw [show bs ⟨#[107]⟩ = [107] from rfl, k1, decide_eq_false hk]) rfl
    by_cases hb : (bs s).getLast? = some 98
    · rw [show szD (bs s) = bs (s.extract 0 (s.size - 1)) by rw [bs_cut]; unfold szD; rw [if_pos (.inr hb)], show szT (bs s) = 512 by unfold szT; rw [if_neg hk, if_pos hb]]
      exact size_b s _ w hs hle hC (fun W => cutSuffix_b s ⟨#[98]⟩ _ true W hs (by decide) (by rw [show bs ⟨#[98]⟩ = [98] from rfl, b1, decide_eq_true hb]) rfl)
    · rw [show szD (bs s) = bs s by unfold szD; rw [if_neg (fun h => h.elim hk hb)], show szT (bs s) = 1 by unfold szT; rw [if_neg hk, if_neg hb]]
      exact size_n s s w hs (Nat.le_refl _) hC (fun W => cutSuffix_b s ⟨#[98]⟩ s false W hs (by decide) (by rw [show bs ⟨#[98]⟩ = [98] from rfl, b1, decide_eq_false hb]) rfl) rfl
end Go.Proofs.Ytebnmjelelkcmab.Bk
