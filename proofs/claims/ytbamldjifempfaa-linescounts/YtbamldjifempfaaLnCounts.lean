/- What the document's Count answers: the same; the law LinesCounts's walk. -/
import Derived.Test.YtbamldjifempfaaLnCount
import Derived.Test.YtbamldjifempfaaBeyond
namespace Go.Proofs.Ytbamldjifempfaa.Ln
open Go.RowKit Go.Shelf

theorem endsN_cons (p : UInt8 → Bool) (c : UInt8) (l : List UInt8) : endsN (parts p (c :: l)) = (if p c then 1 else 0) + endsN (parts p l) := by
  rw [parts]
  split
  · rename_i h; simp [endsN]; omega
  · split
    · rename_i h1; rw [h1]; simp [endsN]
    · rename_i x b r h1; rw [h1]; cases b <;> simp [endsN]
theorem longN_cons (q : List UInt8 × Bool) (l : List (List UInt8 × Bool)) : longN (q :: l) = max q.1.length (longN l) := by
  have : ∀ (l : List (List UInt8 × Bool)) m, l.foldl (fun m q => max m q.1.length) m = max m (longN l) := by
    intro l
    induction l with
    | nil => intro m; simp [longN]
    | cons q l ih =>
      intro m
      simp only [longN, List.foldl_cons]
      rw [ih, ih]
      omega
  simp only [longN, List.foldl_cons]
  rw [this]
  simp [longN]
/-- the longest line of what is left, k bytes of its first line having come -/
def longF (k : Nat) : List UInt8 → Nat
  | [] => k
  | c :: l => if isEnd c then max k (longF 0 l) else longF (k + 1) l
theorem longF_eq : ∀ (l : List UInt8) (k : Nat), longF k l = match parts isEnd l with | [] => k | q :: r => max (k + q.1.length) (longN r)
  | [], k => by simp [longF, parts]
  | c :: l, k => by
    rw [longF, parts]
    split
    · rw [longF_eq l 0]
      cases parts isEnd l with
      | nil => simp [longN]
      | cons q r => simp [longN_cons]
    · rw [longF_eq l (k + 1)]
      cases parts isEnd l with
      | nil => simp [longN]
      | cons q r => obtain ⟨x, b⟩ := q; simp; omega
theorem longF_zero (l : List UInt8) : longF 0 l = longN (parts isEnd l) := by
  rw [longF_eq]
  cases parts isEnd l with
  | nil => simp [longN]
  | cons q r => simp [longN_cons]
theorem longF_ge : ∀ (l : List UInt8) (k : Nat), k ≤ longF k l
  | [], k => Nat.le_refl _
  | c :: l, k => by
    rw [longF]
    split
    · omega
    · have := longF_ge l (k + 1); omega
/-- how many words begin; does a byte between words, or none, stand ahead? -/
def wc (p : UInt8 → Bool) : Bool → List UInt8 → Nat
  | _, [] => 0
  | b, c :: l => (if !p c && b then 1 else 0) + wc p (p c) l
theorem wc_two (p : UInt8 → Bool) (l : List UInt8) : wc p true l = wc p false l + (match l with | [] => 0 | c :: _ => if p c then 0 else 1) := by
  cases l with
  | nil => rfl
  | cons c l => simp only [wc]; cases p c <;> simp; omega
theorem wc_runs (p : UInt8 → Bool) : ∀ l : List UInt8, (runsOf (parts p l)).length = wc p true l
  | [] => rfl
  | c :: l => by
    have ih := wc_runs p l
    rw [parts, wc]
    split
    · rename_i h; simp [runsOf, h] at ih ⊢; exact ih
    · rename_i h
      have h' : p c = false := by simpa using h
      rw [h']
      have h2 := wc_two p l
      split
      · rename_i h1
        have := parts_none _ h1
        subst this
        simp [runsOf, wc]
      · rename_i x b r h1
        rw [h1] at ih
        have h3 : (match l with | [] => 0 | c :: _ => if p c then 0 else 1) = if x.isEmpty then 0 else 1 := by
          cases l with
          | nil => simp [parts] at h1
          | cons d l =>
            rw [parts] at h1
            split at h1
            · rename_i hd; simp at h1; simp [← h1.1.1, hd]
            · rename_i hd
              split at h1
              · simp at h1; simp [← h1.1.1, hd]
              · simp at h1; simp [← h1.1.1, hd]
        rw [h3] at h2
        rw [h2] at ih
        cases x with
        | nil => simp [runsOf] at ih ⊢; omega
        | cons d x => simp [runsOf] at ih ⊢; omega

/-- what the loop has told, i bytes having come -/
structure CInv (l : List UInt8) (i nl nw nm k : Nat) (pb : Bool) : Prop where
  ends : endsN (parts isEnd l) = nl + endsN (parts isEnd (l.drop i))
  words : (runsOf (parts isSpace l)).length = nw + wc isSpace pb (l.drop i)
  long : longN (parts isEnd l) = max nm (longF k (l.drop i))
  line : k ≤ nm
  b1 : nm ≤ i
  b2 : nl ≤ i
  b3 : nw ≤ i
theorem CInv.start (l : List UInt8) : CInv l 0 0 0 0 0 true := ⟨by simp, by simp [wc_runs], by simp [longF_zero], Nat.le_refl _, Nat.le_refl _, Nat.le_refl _, Nat.le_refl _⟩
theorem CInv.step {l : List UInt8} {i nl nw nm k : Nat} {pb : Bool} (h : CInv l i nl nw nm k pb) (c : UInt8) (hc : l.drop i = c :: l.drop (i + 1)) :
    CInv l (i + 1) (nl + if isEnd c then 1 else 0) (nw + if !isSpace c && pb then 1 else 0) (if isEnd c then nm else max nm (k + 1)) (if isEnd c then 0 else k + 1) (isSpace c) := by
  obtain ⟨h1, h2, h3, h4, h5, h6, h7⟩ := h
  rw [hc] at h1 h2 h3
  rw [endsN_cons] at h1
  rw [wc] at h2
  rw [longF] at h3
  refine ⟨by omega, by omega, ?_, ?_, ?_, ?_, ?_⟩
  · cases he : isEnd c
    · simp [he] at h3 ⊢
      have := longF_ge (l.drop (i + 1)) (k + 1)
      omega
    · simp [he] at h3 ⊢
      omega
  · split <;> omega
  · split <;> omega
  · split <;> omega
  · split <;> omega
theorem CInv.done {l : List UInt8} {nl nw nm k : Nat} {pb : Bool} (h : CInv l l.length nl nw nm k pb) : endsN (parts isEnd l) = nl ∧ (runsOf (parts isSpace l)).length = nw ∧ longN (parts isEnd l) = nm := by
  obtain ⟨h1, h2, h3, h4, _⟩ := h
  rw [List.drop_length] at h1 h2 h3
  refine ⟨by simpa [parts, endsN] using h1, by simpa [wc] using h2, ?_⟩
  simp [longF] at h3
  omega

theorem idle_any (c : Nat) (w : World) (h1 : c < 256) :
    Calls Try.prog 35 #[.int .u8 c] w fun e w' => e = .returned (.bool ((decide (9 ≤ c) && decide (c ≤ 13)) || decide (c = 32))) ∧ w' = w := by
  obtain ⟨r, hr⟩ : ∃ r, r = ((decide (9 ≤ c) && decide (c ≤ 13)) || decide (c = 32)) := ⟨_, rfl⟩
  rw [← hr]
  rcases (show c < 9 ∨ (9 ≤ c ∧ c ≤ 13) ∨ (13 < c ∧ c ≠ 32) ∨ c = 32 by omega) with h | ⟨h, h'⟩ | ⟨h, h'⟩ | rfl
  · have a1 : ¬ (9 : Int) ≤ (c : Int) := by omega
    have a2 : ((c : Int) == 32) = false := by simp; omega
    obtain rfl : r = false := by rw [hr]; simp; omega
    clear hr
    go_enter Try.func35, Try.ntmps35
    go_wp2
    go_ret
    exact ⟨rfl, rfl⟩
  · have a1 : (9 : Int) ≤ (c : Int) := by omega
    have a3 : (c : Int) ≤ 13 := by omega
    have a2 : ((c : Int) == 32) = false := by simp; omega
    obtain rfl : r = true := by rw [hr]; simp [h, h']
    clear hr
    go_enter Try.func35, Try.ntmps35
    go_wp2
    go_ret
    exact ⟨rfl, rfl⟩
  · have a1 : (9 : Int) ≤ (c : Int) := by omega
    have a3 : ¬ (c : Int) ≤ 13 := by omega
    have a2 : ((c : Int) == 32) = false := by simp; omega
    obtain rfl : r = false := by rw [hr]; simp; omega
    clear hr
    go_enter Try.func35, Try.ntmps35
    go_wp2
    go_ret
    exact ⟨rfl, rfl⟩
  · obtain rfl : r = true := by rw [hr]; rfl
    clear hr
    go_enter Try.func35, Try.ntmps35
    go_wp2
    go_ret
    exact ⟨rfl, rfl⟩

def pbOf (l : List UInt8) : Nat → Bool
  | 0 => true
  | k + 1 => isSpace (l.getD k 0)
theorem pbOf_succ (s : ByteArray) (k : Nat) (h : k < s.size) : pbOf s.data.toList (k + 1) = isSpace s[k] := by
  have : s.data.toList.getD k 0 = s[k] := by
    rw [List.getD, List.getElem?_eq_getElem (show k < s.data.toList.length from h)]
    rfl
  rw [pbOf, this]

set_option maxRecDepth 100000 in
set_option maxHeartbeats 2000000 in
theorem refCount_any (s : ByteArray) (w : World) (hs : s.size ≤ 1073741824) :
    Calls Try.prog 23 #[.string s] w fun e w' => e = .returned (countAns s) ∧ w' = w := by
  have HI : Hid (∀ (c : UInt8) (W : World), Calls Try.prog 35 #[.int .u8 c.toNat] W fun e w' => e = .returned (.bool (isSpace c)) ∧ w' = W) := fun c W => (idle_any c.toNat W c.toNat_lt).mono fun e W' h => ⟨h.1, h.2⟩
  go_enter Try.func23, Try.ntmps23
  go_wp2_with fail
  go_loopw [6, 7, 8, 9, 10] (fun v6 v7 v8 v9 i wr => ∃ nl nw nm k b : Nat, v6 = .int .i64 nl ∧ v7 = .int .i64 nw ∧ v8 = .int .i64 nm ∧ v9 = .int .i64 k ∧ i = .int .i64 b ∧ b ≤ s.size ∧ nl ≤ b ∧ nw ≤ b ∧ nm ≤ b ∧ k ≤ nm ∧ Hid (CInv s.data.toList b nl nw nm k (pbOf s.data.toList b)) ∧ wr = w) (fun _ _ _ _ i _ => s.size - (intOf i).toNat)
  case atStart => exact ⟨0, 0, 0, 0, 0, rfl, rfl, rfl, rfl, rfl, Nat.zero_le _, Nat.le_refl _, Nat.le_refl _, Nat.le_refl _, Nat.le_refl _, CInv.start _, rfl⟩
  case round =>
    obtain ⟨nl, nw, nm, k, b, rfl, rfl, rfl, rfl, rfl, hb, h2, h3, h1, h4, hinv, rfl⟩ := hrel
    by_cases hlt : b < s.size
    · have hlt' : (b : Int) < (s.size : Int) := by omega
      have hll : b < s.data.toList.length := hlt
      have hstep := (unhide hinv).step s[b] (List.drop_eq_getElem_cons hll)
      have HI1 := hide (fun W => unhide HI s[b] W)
      by_cases hE : s[b].toNat = 10
      · have hE' : (s[b].toNat : Int) = 10 := by omega
        have e1 : isEnd s[b] = true := by simp [isEnd, hE]
        have e2 : isSpace s[b] = true := by simp [isSpace, hE]
        have hst' : Hid (CInv s.data.toList (b + 1) (nl + 1) nw nm 0 (pbOf s.data.toList (b + 1))) := by
          show CInv _ _ _ _ _ _ _
          rw [pbOf_succ s b hlt]
          simpa [e1, e2] using hstep
        have HI2 : Hid (∀ W : World, Calls Try.prog 35 #[.int .u8 10] W fun e w' => e = .returned (.bool true) ∧ w' = W) := fun W => idle_any 10 W (by decide)
        clear hstep e1 e2 hE hinv HI1
        go_wp2_with fail
        refine (unhide HI2 _).mono ?_
        rintro e w' ⟨rfl, rfl⟩
        go_wp2_with fail
        go_roundw
        case rel => exact ⟨nl + 1, nw, nm, 0, b + 1, by go_num, rfl, rfl, rfl, by go_num, by omega, by omega, by omega, by omega, by omega, hst', by simp⟩
        case measure => simp [intOf]; omega
      · have hE' : ¬ (s[b].toNat : Int) = 10 := by omega
        have e1 : isEnd s[b] = false := by simp [isEnd, hE]
        simp only [e1, Bool.false_eq_true, if_false, Nat.add_zero] at hstep
        clear e1 hE
        have hmx : ((nm : Int) < (k : Int) + 1 ∧ max nm (k + 1) = k + 1) ∨ ((k : Int) + 1 ≤ (nm : Int) ∧ max nm (k + 1) = nm) := by omega
        rcases hmx with ⟨hm, hme⟩ | ⟨hm, hme⟩
        · rw [hme] at hstep
          clear hme
          cases hsp : isSpace s[b]
          · simp only [hsp] at hstep
            have HI2 : Hid (∀ W : World, Calls Try.prog 35 #[.int .u8 s[b].toNat] W fun e w' => e = .returned (.bool false) ∧ w' = W) := fun W => by rw [← hsp]; exact unhide HI1 W
            clear HI1
            have hb0 : b = 0 ∨ ∃ j, b = j + 1 := by cases b; exact .inl rfl; exact .inr ⟨_, rfl⟩
            rcases hb0 with hb0 | ⟨j, hb0⟩
            · have hst' : Hid (CInv s.data.toList (b + 1) nl (nw + 1) (k + 1) (k + 1) (pbOf s.data.toList (b + 1))) := by
                show CInv _ _ _ _ _ _ _
                rw [pbOf_succ s b hlt, hsp]
                subst hb0
                exact hstep
              clear hstep hinv hsp
              subst hb0
              go_wp2_with fail
              refine (unhide HI2 _).mono ?_
              rintro e w' ⟨rfl, rfl⟩
              go_wp2_with fail
              go_roundw
              case rel => exact ⟨nl, nw + 1, (k + 1), k + 1, 1, rfl, by go_num, by go_num, by go_num, by go_num, by omega, by omega, by omega, by omega, by omega, hst', by simp⟩
              case measure => simp [intOf]; omega
            · have hj : j < s.size := by omega
              have hpj : pbOf s.data.toList b = isSpace s[j] := by subst hb0; exact pbOf_succ s j hj
              rw [hpj] at hstep
              cases hsq : isSpace s[j]
              · rw [hsq] at hstep
                have HI3 : Hid (∀ W : World, Calls Try.prog 35 #[.int .u8 s[j].toNat] W fun e w' => e = .returned (.bool false) ∧ w' = W) := fun W => by rw [← hsq]; exact unhide HI s[j] W
                have hst' : Hid (CInv s.data.toList (b + 1) nl nw (k + 1) (k + 1) (pbOf s.data.toList (b + 1))) := by
                  show CInv _ _ _ _ _ _ _
                  rw [pbOf_succ s b hlt, hsp]
                  exact hstep
                clear hstep hinv hsp hsq hpj
                subst hb0
                go_wp2_with fail
                refine (unhide HI2 _).mono ?_
                rintro e w' ⟨rfl, rfl⟩
                go_wp2_with fail
                refine (unhide HI3 _).mono ?_
                rintro e w' ⟨rfl, rfl⟩
                go_wp2_with fail
                go_roundw
                case rel => exact ⟨nl, nw, (k + 1), k + 1, j + 2, rfl, rfl, by go_num, by go_num, by go_num, by omega, by omega, by omega, by omega, by omega, hst', by simp⟩
                case measure => simp [intOf]; omega
              · rw [hsq] at hstep
                have HI3 : Hid (∀ W : World, Calls Try.prog 35 #[.int .u8 s[j].toNat] W fun e w' => e = .returned (.bool true) ∧ w' = W) := fun W => by rw [← hsq]; exact unhide HI s[j] W
                have hst' : Hid (CInv s.data.toList (b + 1) nl (nw + 1) (k + 1) (k + 1) (pbOf s.data.toList (b + 1))) := by
                  show CInv _ _ _ _ _ _ _
                  rw [pbOf_succ s b hlt, hsp]
                  exact hstep
                clear hstep hinv hsp hsq hpj
                subst hb0
                go_wp2_with fail
                refine (unhide HI2 _).mono ?_
                rintro e w' ⟨rfl, rfl⟩
                go_wp2_with fail
                refine (unhide HI3 _).mono ?_
                rintro e w' ⟨rfl, rfl⟩
                go_wp2_with fail
                go_roundw
                case rel => exact ⟨nl, nw + 1, (k + 1), k + 1, j + 2, rfl, by go_num, by go_num, by go_num, by go_num, by omega, by omega, by omega, by omega, by omega, hst', by simp⟩
                case measure => simp [intOf]; omega
          · simp only [hsp] at hstep
            have HI2 : Hid (∀ W : World, Calls Try.prog 35 #[.int .u8 s[b].toNat] W fun e w' => e = .returned (.bool true) ∧ w' = W) := fun W => by rw [← hsp]; exact unhide HI1 W
            have hst' : Hid (CInv s.data.toList (b + 1) nl nw (k + 1) (k + 1) (pbOf s.data.toList (b + 1))) := by
              show CInv _ _ _ _ _ _ _
              rw [pbOf_succ s b hlt, hsp]
              exact hstep
            clear hstep hinv hsp HI1
            go_wp2_with fail
            refine (unhide HI2 _).mono ?_
            rintro e w' ⟨rfl, rfl⟩
            go_wp2_with fail
            go_roundw
            case rel => exact ⟨nl, nw, (k + 1), k + 1, b + 1, rfl, rfl, by go_num, by go_num, by go_num, by omega, by omega, by omega, by omega, by omega, hst', by simp⟩
            case measure => simp [intOf]; omega
        · rw [hme] at hstep
          clear hme
          cases hsp : isSpace s[b]
          · simp only [hsp] at hstep
            have HI2 : Hid (∀ W : World, Calls Try.prog 35 #[.int .u8 s[b].toNat] W fun e w' => e = .returned (.bool false) ∧ w' = W) := fun W => by rw [← hsp]; exact unhide HI1 W
            clear HI1
            have hb0 : b = 0 ∨ ∃ j, b = j + 1 := by cases b; exact .inl rfl; exact .inr ⟨_, rfl⟩
            rcases hb0 with hb0 | ⟨j, hb0⟩
            · exfalso; omega
            · have hj : j < s.size := by omega
              have hpj : pbOf s.data.toList b = isSpace s[j] := by subst hb0; exact pbOf_succ s j hj
              rw [hpj] at hstep
              cases hsq : isSpace s[j]
              · rw [hsq] at hstep
                have HI3 : Hid (∀ W : World, Calls Try.prog 35 #[.int .u8 s[j].toNat] W fun e w' => e = .returned (.bool false) ∧ w' = W) := fun W => by rw [← hsq]; exact unhide HI s[j] W
                have hst' : Hid (CInv s.data.toList (b + 1) nl nw nm (k + 1) (pbOf s.data.toList (b + 1))) := by
                  show CInv _ _ _ _ _ _ _
                  rw [pbOf_succ s b hlt, hsp]
                  exact hstep
                clear hstep hinv hsp hsq hpj
                subst hb0
                go_wp2_with fail
                refine (unhide HI2 _).mono ?_
                rintro e w' ⟨rfl, rfl⟩
                go_wp2_with fail
                refine (unhide HI3 _).mono ?_
                rintro e w' ⟨rfl, rfl⟩
                go_wp2_with fail
                go_roundw
                case rel => exact ⟨nl, nw, nm, k + 1, j + 2, rfl, rfl, rfl, by go_num, by go_num, by omega, by omega, by omega, by omega, by omega, hst', by simp⟩
                case measure => simp [intOf]; omega
              · rw [hsq] at hstep
                have HI3 : Hid (∀ W : World, Calls Try.prog 35 #[.int .u8 s[j].toNat] W fun e w' => e = .returned (.bool true) ∧ w' = W) := fun W => by rw [← hsq]; exact unhide HI s[j] W
                have hst' : Hid (CInv s.data.toList (b + 1) nl (nw + 1) nm (k + 1) (pbOf s.data.toList (b + 1))) := by
                  show CInv _ _ _ _ _ _ _
                  rw [pbOf_succ s b hlt, hsp]
                  exact hstep
                clear hstep hinv hsp hsq hpj
                subst hb0
                go_wp2_with fail
                refine (unhide HI2 _).mono ?_
                rintro e w' ⟨rfl, rfl⟩
                go_wp2_with fail
                refine (unhide HI3 _).mono ?_
                rintro e w' ⟨rfl, rfl⟩
                go_wp2_with fail
                go_roundw
                case rel => exact ⟨nl, nw + 1, nm, k + 1, j + 2, rfl, by go_num, rfl, by go_num, by go_num, by omega, by omega, by omega, by omega, by omega, hst', by simp⟩
                case measure => simp [intOf]; omega
          · simp only [hsp] at hstep
            have HI2 : Hid (∀ W : World, Calls Try.prog 35 #[.int .u8 s[b].toNat] W fun e w' => e = .returned (.bool true) ∧ w' = W) := fun W => by rw [← hsp]; exact unhide HI1 W
            have hst' : Hid (CInv s.data.toList (b + 1) nl nw nm (k + 1) (pbOf s.data.toList (b + 1))) := by
              show CInv _ _ _ _ _ _ _
              rw [pbOf_succ s b hlt, hsp]
              exact hstep
            clear hstep hinv hsp HI1
            go_wp2_with fail
            refine (unhide HI2 _).mono ?_
            rintro e w' ⟨rfl, rfl⟩
            go_wp2_with fail
            go_roundw
            case rel => exact ⟨nl, nw, nm, k + 1, b + 1, rfl, rfl, rfl, by go_num, by go_num, by omega, by omega, by omega, by omega, by omega, hst', by simp⟩
            case measure => simp [intOf]; omega
    · obtain rfl : b = s.size := by omega
      obtain ⟨q1, q2, q3⟩ := CInv.done (l := s.data.toList) (unhide hinv)
      have hA : countAns s = .tuple #[.int .i64 nl, .int .i64 nw, .int .i64 s.size, .int .i64 nm] := by rw [countAns, q1, q2, q3]
      have HA := hide hA
      clear q1 q2 q3 hA hinv
      go_wp2_with fail
      refine bodyPost_ret (v := .tuple #[.int .i64 nl, .int .i64 nw, .int .i64 s.size, .int .i64 nm]) (by simp [results, Try.f23, go_sem]) rfl ?_
      exact ⟨by rw [unhide HA], rfl⟩

set_option maxRecDepth 100000 in
set_option maxHeartbeats 1000000 in
theorem linesCounts_any (s : ByteArray) (w : World) (hs : s.size ≤ maxLen) :
    Calls Try.prog 5 #[.string s] w fun e w' => e = .returned (.bool true) ∧ Below w.heap.size w w' := by
  have hs' : s.size ≤ 9223372036854775807 := by unfold maxLen at hs; omega
  go_enter Try.func5, Try.ntmps5
  go_wp2_with fail
  refine (Beyond.beyond_one (s.size : Int) w.heap.size _ (by simp) (by omega) (by omega)).mono ?_
  rintro e w' ⟨rfl, rfl⟩
  by_cases hb : 1048576 < (s.size : Int)
  · go_wp2_with fail
    go_ret
    exact ⟨rfl, (Below.refl _ _).alloc (Nat.le_refl _) _⟩
  · have hs2 : s.size ≤ 1073741824 := by omega
    have H1 := hide (count_any s (w.alloc (.cells #[.int .i64 s.size] 3)) hs2)
    have H2 : Hid (∀ W, Calls Try.prog 23 #[.string s] W fun e w' => e = .returned (countAns s) ∧ w' = W) := fun W => refCount_any s W hs2
    unfold countAns at H1 H2
    generalize endsN (parts isEnd s.data.toList) = x1 at *
    generalize (runsOf (parts isSpace s.data.toList)).length = x2 at *
    generalize longN (parts isEnd s.data.toList) = x3 at *
    have hB0 : Below w.heap.size w (w.alloc (.cells #[.int .i64 s.size] 3)) := (Below.refl _ _).alloc (Nat.le_refl _) _
    go_wp2_with fail
    refine (unhide H1).mono ?_
    rintro e w1 ⟨rfl, hB1⟩
    have hB1' : Below w.heap.size w w1 := hB0.trans (hB1.mono hB0.size)
    clear hB0 hB1
    go_wp2_with fail
    refine (unhide H2 _).mono ?_
    rintro e w2 ⟨rfl, rfl⟩
    go_wp2_with fail
    go_ret
    exact ⟨rfl, hB1'⟩

end Go.Proofs.Ytbamldjifempfaa.Ln
