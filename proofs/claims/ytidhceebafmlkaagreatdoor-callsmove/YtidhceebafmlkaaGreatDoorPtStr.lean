import Derived.Test.YtidhceebafmlkaaGreatDoorTrFind
import Derived.Test.YtidhceebafmlkaaGreatDoorTrList
import Derived.Lib.FieldsP
import Derived.Laws.RangeString
import Derived.Laws.RangeAny
import Derived.Lib.IndexBytes
namespace Go.Proofs.YtidhceebafmlkaaGreatDoor.Tr
open Go.RowKit Cu
abbrev fnFC : Value := .func (.func 270) #[] #[]
set_option maxRecDepth 100000 in
set_option maxHeartbeats 400000 in
theorem cmp1C_any (nm : ByteArray) (no : Int) (t : ByteArray) (w : World) : Calls Tryz.prog 270 #[.agg #[.string nm, .int .i64 no], .string t] w fun e w' => e = .returned (.int .i64 (Lib.compareBytes (bs nm) (bs t))) ∧ Below w.heap.size w w' := by
  have HC := hide (Tryz.strings_Compare nm t)
  generalize Lib.compareBytes nm.data.toList t.data.toList = c at *
  have hb0 : Hid (Below w.heap.size w (w.alloc (.cells #[.string nm, .int .i64 no] 116))) := (Below.refl _ _).alloc (Nat.le_refl _) _
  go_enter Tryz.func270, Tryz.ntmps270
  go_wp2_with (go_at_call 115; refine (uh HC _).mono ?_; rintro e w' ⟨rfl, rfl⟩)
  go_ret
  exact ⟨rfl, uh hb0⟩
set_option maxRecDepth 100000 in
set_option maxHeartbeats 1000000 in
theorem searchC_any (a : Option Addr) (n cap : Nat) (es : List En) (t : ByteArray) (w : World) (h : Eg w a n cap es) (hr : Rises es) (hn : n ≤ 1000000) :
    Calls Tryz.prog 113 #[.slice a n cap, .string t, fnFC] w fun e w' => Below w.heap.size w w' ∧
      ((∃ k : Nat, k < n ∧ e = .returned (.tuple #[.int .i64 k, .bool true]) ∧ (en es k).name = t ∧ (∀ j, j < k → bs (en es j).name < bs t)) ∨ (∃ k : Nat, k ≤ n ∧ e = .returned (.tuple #[.int .i64 k, .bool false]) ∧ (∀ j, j < n → (en es j).name ≠ t) ∧ (∀ j, j < k → bs (en es j).name < bs t) ∧ ∀ j, k ≤ j → j < n → ¬ bs (en es j).name < bs t)) := by
  rcases h.cells with rfl | ⟨b, off, rfl, hb, hc⟩
  · go_enter Tryz.func113, Tryz.ntmps113
    go_wp2
    refine wp_loop_rounds 1 ?_
    rw [rounds_succ]
    go_wp2
    go_ret2
    exact ⟨Below.refl _ _, .inr ⟨0, Nat.le_refl _, rfl, (fun j hj => by omega), (fun j hj => by omega), (fun j h1 h2 => by omega)⟩⟩
  have HC := hide hc
  have HR : Hid (∀ i j, i < j → j < n → bs (en es i).name < bs (en es j).name) := fun i j h1 h2 => hr i j h1 (by rw [h.len]; exact h2)
  have HF := hide cmp1C_any
  clear hc h hr
  go_enter Tryz.func113, Tryz.ntmps113
  go_wp2
  go_loopw [9, 10] (fun x y wr => ∃ i j : Nat, i ≤ j ∧ j ≤ n ∧ x = .int .i64 i ∧ y = .int .i64 j ∧ Hid (∀ k, k < i → bs (en es k).name < bs t) ∧ Hid (∀ k, j ≤ k → k < n → ¬ bs (en es k).name < bs t) ∧ Hid (Below w.heap.size w wr)) (fun x y _ => (intOf y).toNat - (intOf x).toNat)
  case atStart => exact ⟨0, n, Nat.zero_le _, Nat.le_refl _, rfl, rfl, fun k hk => by omega, fun k h1 h2 => by omega, Below.refl _ _⟩
  case round =>
    obtain ⟨i, j, hij, hjn, rfl, rfl, hlo, hhi, hnx⟩ := hrel
    have hsz := (uh hnx).size
    by_cases hlt : i < j
    · have hlt' : (i : Int) < (j : Int) := by omega
      obtain ⟨m, hm⟩ : ∃ m, m = (i + j) / 2 := ⟨_, rfl⟩
      have hmn : m < n := by omega
      have he := (uh HC m hmn).of fun o => (uh hnx).cell (p := ⟨b, o, none⟩) hb
      have e0 := he.c0
      have e1 := he.c1
      have hmj : Hid (i ≤ m ∧ m < j) := hide ⟨by omega, by omega⟩
      have hdiv : ((i : Int) + (j : Int)) / 2 = (m : Int) := by omega
      clear he hm
      go_upto_region 5 with fail
      clear hdiv
      have hHm : Hid (∀ k, k < m → bs (en es k).name < bs (en es m).name) := fun k hk => uh HR k m hk hmn
      have hHn : Hid (∀ k, m < k → k < n → bs (en es m).name < bs (en es k).name) := fun k hk hkn => uh HR m k hk hkn
      obtain ⟨nm, hnm⟩ : ∃ x, x = (en es m).name := ⟨_, rfl⟩
      obtain ⟨no, hno⟩ : ∃ x, x = (en es m).node := ⟨_, rfl⟩
      rw [← hnm] at e0 hHm hHn
      rw [← hno] at e1
      have HF1 := hide (uh HF nm no t wr)
      have hcl := cmp_lt (bs nm) (bs t)
      generalize Lib.compareBytes (bs nm) (bs t) = c at *
      have HNM := hide hnm
      clear hno hnm
      go_wp2_with fail
      refine (uh HF1).mono ?_
      rintro e w1 ⟨rfl, b1⟩
      have hB1 := hide ((uh hnx).trans (b1.mono hsz))
      clear b1 HF1 e0 e1
      by_cases hc0 : c < 0
      · have hlt2 := hide (hcl.1 hc0)
        clear hcl
        go_wp2
        go_roundw
        case rel =>
          refine ⟨m + 1, j, by have := uh hmj; omega, hjn, by go_num, rfl, fun k hk => ?_, hhi, hB1⟩
          by_cases ek : k = m
          · subst ek; rw [← uh HNM]; exact uh hlt2
          · exact bs_lt_trans (uh hHm k (by omega)) (uh hlt2)
        case measure => have := uh hmj; simp [intOf]; omega
      · have hge2 : Hid (¬ bs nm < bs t) := hide (fun h => hc0 (hcl.2 h))
        clear hcl
        go_wp2
        go_roundw
        case rel =>
          refine ⟨i, m, by have := uh hmj; omega, by omega, rfl, rfl, hlo, fun k hk hkn h => ?_, hB1⟩
          by_cases ek : k = m
          · subst ek; rw [← uh HNM] at h; exact uh hge2 h
          · exact uh hge2 (bs_lt_trans (uh hHn k (by omega) hkn) h)
        case measure => have := uh hmj; simp [intOf]; omega
    · obtain rfl : i = j := by omega
      by_cases hin : i < n
      · have hin' : (i : Int) < (n : Int) := by omega
        have he := (uh HC i hin).of fun o => (uh hnx).cell (p := ⟨b, o, none⟩) hb
        have e0 := he.c0
        have e1 := he.c1
        clear he
        have hge := hide (uh hhi i (Nat.le_refl _) hin)
        have hHn : Hid (∀ k, i < k → k < n → bs (en es i).name < bs (en es k).name) := fun k hk hkn => uh HR i k hk hkn
        obtain ⟨nm, hnm⟩ : ∃ x, x = (en es i).name := ⟨_, rfl⟩
        obtain ⟨no, hno⟩ : ∃ x, x = (en es i).node := ⟨_, rfl⟩
        rw [← hnm] at e0 hHn hge
        rw [← hno] at e1
        have HF1 := hide (uh HF nm no t wr)
        have hcl := cmp_eq (bs nm) (bs t)
        generalize Lib.compareBytes (bs nm) (bs t) = c at *
        have HNM := hide hnm
        clear hno hnm
        go_wp2_with fail
        refine (uh HF1).mono ?_
        rintro e w1 ⟨rfl, b1⟩
        have hB1 := hide ((uh hnx).trans (b1.mono hsz))
        clear b1 HF1 e0 e1
        by_cases hc0 : c = 0
        · have heq : nm = t := ba_ext (hcl.1 hc0)
          subst hc0
          have HEQ := hide heq
          clear heq hcl
          go_wp2
          go_ret2
          exact ⟨uh hB1, .inl ⟨i, hin, rfl, by rw [← uh HNM]; exact uh HEQ, uh hlo⟩⟩
        · have hne : Hid (nm ≠ t) := hide (fun e => hc0 (hcl.2 (by rw [e])))
          have hc1 : (c == 0) = false := by simp [hc0]
          clear hcl hc0
          go_wp2
          go_ret2
          refine ⟨uh hB1, .inr ⟨i, by omega, rfl, fun k hk e => ?_, uh hlo, uh hhi⟩⟩
          by_cases h1 : k < i
          · have := uh hlo k h1
            rw [e] at this; exact List.lt_irrefl _ this
          · by_cases h2 : k = i
            · subst h2; rw [← uh HNM] at e; exact uh hne e
            · have := uh hHn k (by omega) hk
              rw [e] at this
              exact uh hge this
      · have hin' : (n : Int) ≤ (i : Int) := by omega
        go_wp2
        go_ret2
        refine ⟨uh hnx, .inr ⟨i, by omega, rfl, fun k hk e => ?_, uh hlo, fun j h1 h2 => by omega⟩⟩
        have := uh hlo k (by omega)
        rw [e] at this; exact List.lt_irrefl _ this
end Go.Proofs.YtidhceebafmlkaaGreatDoor.Tr

namespace Go.Proofs.YtidhceebafmlkaaGreatDoor.Pt
open Go.RowKit Cu
def tx (c : Bs) : ByteArray := ⟨c.toArray⟩
theorem bs_tx (c : Bs) : bs (tx c) = c := by simp [bs, tx]
def prt (c : Bs) : Bs → List ByteArray
  | [] => if c = [] then [] else [tx c]
  | x :: s => if x = 47 then (if c = [] then prt [] s else tx c :: prt [] s) else prt (c ++ [x]) s
def partsP (s : ByteArray) : List ByteArray := prt [] (bs s)
def begins (s : ByteArray) : Bool := decide ((bs s).head? = some 47)
def ends (s : ByteArray) : Bool := decide ((bs s).getLast? = some 47)
theorem prt_len : ∀ (s c : Bs), (prt c s).length ≤ s.length + 1
  | [], c => by unfold prt; split <;> simp
  | x :: s, c => by
    unfold prt
    split
    · split
      · have := prt_len s []; simp; omega
      · have := prt_len s []; simp; omega
    · have := prt_len s (c ++ [x]); simp; omega
theorem parts_len (s : ByteArray) : (partsP s).length ≤ s.size + 1 := prt_len _ _
theorem ext_tx (s : ByteArray) (a b : Nat) : s.extract a b = tx (((bs s).drop a).take (b - a)) := by
  apply ByteArray.ext
  rw [ByteArray.data_extract]
  apply Array.toList_inj.1
  simp [tx, bs]
theorem prt_skip : ∀ (m c s : Bs), (∀ x ∈ m, x ≠ 47) → prt c (m ++ s) = prt (c ++ m) s
  | [], c, s, _ => by simp
  | x :: m, c, s, h => by
    have hx : x ≠ 47 := h x (by simp)
    show (if x = 47 then _ else prt (c ++ [x]) (m ++ s)) = _
    rw [if_neg hx, prt_skip m _ s (fun y hy => h y (by simp [hy]))]
    simp
theorem decode_span (s : ByteArray) (pos : Nat) (h : pos < s.size) (ha : 128 ≤ (s[pos]'h).toNat) :
    pos + (Utf8.decode s pos).2 ≤ s.size ∧ ∀ j, pos ≤ j → j < pos + (Utf8.decode s pos).2 → ∀ b, s.data.toList[j]? = some b → 128 ≤ b.toNat := by
  have hn : ¬ (s[pos]'h).toNat < 128 := by omega
  have hat : ∀ k b, s.data.toList[pos + k]? = some b → (s.get! (pos + k)).toNat = b.toNat := fun k b hb => by
    have hlt : pos + k < s.size := by have := (List.getElem?_eq_some_iff.1 hb).1; simpa using this
    have e := Lib.data_getElem? s (pos + k) hlt
    rw [hb] at e
    have e2 : b = s[pos + k] := Option.some.inj e
    have e3 : s.get! (pos + k) = s[pos + k] := by simp [ByteArray.get!, getElem!_pos, hlt]; rfl
    rw [e3, e2]
  have key : ∀ n, (∀ k, 1 ≤ k → k < n → pos + k < s.size ∧ (s.get! (pos + k)).toNat / 64 = 2) → pos + n ≤ s.size ∨ n = 0 → ∀ j, pos ≤ j → j < pos + n → ∀ b, s.data.toList[j]? = some b → 128 ≤ b.toNat := by
    intro n hk _ j h1 h2 b hb
    obtain ⟨k, rfl⟩ : ∃ k, j = pos + k := ⟨j - pos, by omega⟩
    by_cases h0 : k = 0
    · subst h0
      have e := Lib.data_getElem? s pos h
      rw [Nat.add_zero, e] at hb
      rw [← Option.some.inj hb]
      exact ha
    · have h3 := (hk k (by omega) (by omega)).2
      rw [hat k b hb] at h3
      omega
  have one : pos + 1 ≤ s.size ∧ ∀ j, pos ≤ j → j < pos + 1 → ∀ b, s.data.toList[j]? = some b → 128 ≤ b.toNat := ⟨by omega, key 1 (fun k h1 h2 => by omega) (.inl (by omega))⟩
  simp only [Utf8.decode, get_at s pos h, hn, if_false]
  split
  · rename_i hc
    simp only [Bool.and_eq_true, decide_eq_true_eq, beq_iff_eq] at hc
    split
    · refine ⟨by simp only []; omega, key 2 (fun k h1 h2 => ?_) (.inl (by omega))⟩
      obtain rfl : k = 1 := by omega
      exact hc.2
    · exact one
  · split
    · rename_i hc
      simp only [Bool.and_eq_true, decide_eq_true_eq, beq_iff_eq] at hc
      split
      · refine ⟨by simp only []; omega, key 3 (fun k h1 h2 => ?_) (.inl (by omega))⟩
        rcases (show k = 1 ∨ k = 2 by omega) with rfl | rfl
        · exact hc.1.2
        · exact hc.2
      · exact one
    · split
      · rename_i hc
        simp only [Bool.and_eq_true, decide_eq_true_eq, beq_iff_eq] at hc
        split
        · refine ⟨by simp only []; omega, key 4 (fun k h1 h2 => ?_) (.inl (by omega))⟩
          rcases (show k = 1 ∨ k = 2 ∨ k = 3 by omega) with rfl | rfl | rfl
          · exact hc.1.1.2
          · exact hc.1.2
          · exact hc.2
        · exact one
      · exact one
theorem decode_ge (s : ByteArray) (pos : Nat) (h : pos < s.size) (ha : 128 ≤ (s[pos]'h).toNat) : 128 ≤ (Utf8.decode s pos).1 := by
  rw [Lib.decode_at]
  have e3 : s.get! pos = s[pos] := get_at s pos h
  rw [e3]
  generalize (s[pos]'h).toNat = b0 at *
  unfold Lib.decodeN
  rw [if_neg (by omega)]
  (repeat' split) <;> simp only [] <;> omega
theorem drop_at (l : Bs) (i : Nat) (h : i < l.length) : l.drop i = l.getD i 0 :: l.drop (i + 1) := by
  rw [List.drop_eq_getElem_cons h]
  simp [List.getD, List.getElem?_eq_getElem h]
theorem byte_at (s : ByteArray) (pos : Nat) (h : pos < s.size) : (bs s).getD pos 0 = s[pos] := by
  have e := Lib.data_getElem? s pos h
  simp [bs, List.getD, e]
def isSl (r : Nat) : Bool := r == 47
def cur (s : ByteArray) (st : Option Nat) (pos : Nat) : Bs := match st with
  | none => []
  | some a => ((bs s).drop a).take (pos - a)
theorem spans_parts (s : ByteArray) : ∀ (f pos : Nat) (st : Option Nat) (acc : List (Nat × Nat)), s.size ≤ pos + f → pos ≤ s.size → (∀ a, st = some a → a < pos) →
    (Lib.closeSpans s (Lib.spansFromP isSl s f pos st acc)).map (fun x => s.extract x.1 x.2) = acc.map (fun x => s.extract x.1 x.2) ++ prt (cur s st pos) ((bs s).drop pos) := by
  intro f
  have hlen : (bs s).length = s.size := rfl
  have hend : ∀ (pos : Nat) (st : Option Nat) (acc : List (Nat × Nat)), pos = s.size → (∀ a, st = some a → a < pos) → (Lib.closeSpans s (acc, st)).map (fun x => s.extract x.1 x.2) = acc.map (fun x => s.extract x.1 x.2) ++ prt (cur s st pos) ((bs s).drop pos) := by
    intro pos st acc hp hst
    rw [List.drop_of_length_le (by omega)]
    cases st with
    | none => simp [Lib.closeSpans, cur, prt]
    | some a =>
      have ha := hst a rfl
      have hne : cur s (some a) pos ≠ [] := by
        intro e
        have := congrArg List.length e
        simp only [cur] at this
        rw [List.length_take, List.length_drop, hlen] at this
        simp at this; omega
      simp only [Lib.closeSpans, prt]
      rw [if_neg hne, List.map_append]
      simp only [cur]
      rw [hp, ← ext_tx]
      rfl
  induction f with
  | zero => intro pos st acc h1 h2 hst; exact hend pos st acc (by omega) hst
  | succ f ih =>
    intro pos st acc h1 h2 hst
    unfold Lib.spansFromP
    by_cases hlt : pos < s.size
    case neg => rw [if_neg hlt]; exact hend pos st acc (by omega) hst
    rw [if_pos hlt]
    by_cases hb : (s[pos]'hlt).toNat < 128
    · rw [decode_ascii s pos hlt hb]
      simp only
      rw [drop_at (bs s) pos (by omega), byte_at s pos hlt]
      by_cases h47 : s[pos] = 47
      · have hp : isSl (s[pos]'hlt).toNat = true := by rw [h47]; rfl
        rw [if_pos hp]
        unfold prt
        rw [if_pos h47]
        cases st with
        | none =>
          simp only [cur, if_true]
          rw [ih (pos + 1) none acc (by omega) (by omega) (by simp)]
          rfl
        | some a =>
          have ha := hst a rfl
          have hne : cur s (some a) pos ≠ [] := by
            intro e
            have := congrArg List.length e
            simp only [cur] at this
            rw [List.length_take, List.length_drop, hlen] at this
            simp at this; omega
          simp only []
          rw [if_neg hne, ih (pos + 1) none _ (by omega) (by omega) (by simp), List.map_append]
          simp only [cur]
          rw [← ext_tx]
          simp
      · have hp : ¬ isSl (s[pos]'hlt).toNat = true := by
          unfold isSl
          rw [beq_iff_eq]
          exact fun e => h47 (UInt8.toNat_inj.1 e)
        rw [if_neg hp]
        unfold prt
        rw [if_neg h47]
        cases st with
        | none =>
          simp only [cur]
          rw [ih (pos + 1) (some pos) acc (by omega) (by omega) (fun a e => by injection e; omega)]
          simp only [cur]
          rw [show pos + 1 - pos = 1 by omega, drop_at (bs s) pos (by omega), byte_at s pos hlt]
          rfl
        | some a =>
          have ha := hst a rfl
          simp only [cur]
          rw [ih (pos + 1) (some a) acc (by omega) (by omega) (fun a' e => by injection e; omega)]
          simp only [cur]
          have e1 : ((bs s).drop a).take (pos + 1 - a) = ((bs s).drop a).take (pos - a) ++ [s[pos]] := by
            rw [show pos + 1 - a = (pos - a) + 1 by omega, List.take_add_one, List.getElem?_drop, show a + (pos - a) = pos by omega]
            have := Lib.data_getElem? s pos hlt
            simp [bs, this]
          rw [e1]
    · have hb' : 128 ≤ (s[pos]'hlt).toNat := by omega
      have hge := decode_ge s pos hlt hb'
      obtain ⟨d1, d2⟩ := decode_span s pos hlt hb'
      have hw := Lib.width_pos s pos
      have hp : ¬ isSl (Utf8.decode s pos).1 = true := by unfold isSl; rw [beq_iff_eq]; omega
      rw [if_neg hp]
      generalize (Utf8.decode s pos).2 = K at *
      have e0 : (bs s).drop pos = ((bs s).drop pos).take K ++ (bs s).drop (pos + K) := by
        rw [← List.drop_drop, List.take_append_drop]
      have hm : ∀ x ∈ ((bs s).drop pos).take K, x ≠ 47 := by
        intro x hx e
        obtain ⟨j, hj, rfl⟩ := List.getElem_of_mem hx
        have hj' := hj
        rw [List.length_take] at hj'
        have q := d2 (pos + j) (by omega) (by omega) (((bs s).drop pos).take K)[j] (by
          rw [List.getElem_take, List.getElem_drop]
          exact List.getElem?_eq_getElem _)
        rw [e] at q
        exact absurd q (by decide)
      rw [e0, prt_skip _ _ _ hm]
      cases st with
      | none =>
        simp only []
        rw [ih (pos + K) (some pos) acc (by omega) (by omega) (fun a e => by injection e; omega)]
        simp only [cur]
        rw [show pos + K - pos = K by omega]
        rfl
      | some a =>
        have ha := hst a rfl
        simp only []
        rw [ih (pos + K) (some a) acc (by omega) (by omega) (fun a' e => by injection e; omega)]
        simp only [cur]
        have e1 : ((bs s).drop a).take (pos + K - a) = ((bs s).drop a).take (pos - a) ++ ((bs s).drop pos).take K := by
          rw [show pos + K - a = (pos - a) + K by omega, List.take_add, List.drop_drop, show a + (pos - a) = pos by omega]
        rw [e1]
theorem fields_parts (s : ByteArray) : Lib.goFieldsP isSl s = partsP s := by
  unfold Lib.goFieldsP Lib.spansOfP
  rw [spans_parts s s.size 0 none [] (by omega) (by omega) (by simp)]
  simp [cur, partsP]
def bareB (l : Bs) : Bs := (l.reverse.dropWhile (· == 47)).reverse
def lastB (l : Bs) : Nat := l.length - (l.reverse.takeWhile (· != 47)).length
def baseB (s : Bs) : Bs := if s = [] then [46] else if bareB s = [] then [47] else (bareB s).drop (lastB (bareB s))
def dirB (s : Bs) : Bs := if bareB ((bareB s).take (lastB (bareB s))) ≠ [] then bareB ((bareB s).take (lastB (bareB s))) else if s.head? = some 47 then [47] else [46]
def joinB (p n : Bs) : Bs := if p = [] ∨ p.getLast? = some 47 then p ++ n else p ++ 47 :: n
end Go.Proofs.YtidhceebafmlkaaGreatDoor.Pt
