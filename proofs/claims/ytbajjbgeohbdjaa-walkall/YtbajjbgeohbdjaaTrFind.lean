/- What Find answers. -/
import Derived.Test.YtbajjbgeohbdjaaTrTells
import Derived.Test.YtbajjbgeohbdjaaTrShelf
namespace Go.Proofs.Ytbajjbgeohbdjaa.Tr
open Go.RowKit Go.Proofs.Ytbajjbgeohbdjaa.Cu

theorem less_lt : ∀ a b : Bs, Op.bytesLess a b = true ↔ a < b
  | [], [] => by simp [Op.bytesLess]
  | [], _ :: _ => by simp [Op.bytesLess]
  | _ :: _, [] => by simp [Op.bytesLess]
  | a :: s, b :: t => by
    rw [Op.bytesLess, List.cons_lt_cons_iff, Bool.or_eq_true, Bool.and_eq_true, decide_eq_true_eq, less_lt s t]
    simp
theorem cmp_lt : ∀ a b : Bs, Lib.compareBytes a b < 0 ↔ a < b
  | [], [] => by simp [Lib.compareBytes]
  | [], _ :: _ => by simp [Lib.compareBytes]
  | _ :: _, [] => by simp [Lib.compareBytes]
  | a :: s, b :: t => by
    rw [Lib.compareBytes, List.cons_lt_cons_iff]
    by_cases h1 : a < b
    · simp [h1]
    · by_cases h2 : b < a
      · rw [if_neg h1, if_pos h2]
        refine ⟨fun h => by omega, fun h => ?_⟩
        rcases h with h | ⟨h, _⟩
        · exact absurd h h1
        · subst h; exact absurd h2 h1
      · rw [if_neg h1, if_neg h2, cmp_lt s t]
        have he : a = b := by
          rw [UInt8.lt_iff_toNat_lt] at h1 h2
          exact UInt8.toNat_inj.1 (by omega)
        subst he
        simp [h1]
theorem cmp_eq : ∀ a b : Bs, Lib.compareBytes a b = 0 ↔ a = b
  | [], [] => by simp [Lib.compareBytes]
  | [], _ :: _ => by simp [Lib.compareBytes]
  | _ :: _, [] => by simp [Lib.compareBytes]
  | a :: s, b :: t => by
    rw [Lib.compareBytes]
    by_cases h1 : a < b
    · rw [if_pos h1]
      refine ⟨fun h => by omega, fun h => ?_⟩
      injection h with h _
      subst h
      rw [UInt8.lt_iff_toNat_lt] at h1; omega
    · by_cases h2 : b < a
      · rw [if_neg h1, if_pos h2]
        refine ⟨fun h => by omega, fun h => ?_⟩
        injection h with h _
        subst h
        exact absurd h2 h1
      · rw [if_neg h1, if_neg h2, cmp_eq s t]
        have he : a = b := by
          rw [UInt8.lt_iff_toNat_lt] at h1 h2
          exact UInt8.toNat_inj.1 (by omega)
        subst he
        simp
theorem u8_lt_trans {a b c : UInt8} (h : a < b) (h' : b < c) : a < c := by
  rw [UInt8.lt_iff_toNat_lt] at *; omega
theorem bs_lt_trans : ∀ {a b c : Bs}, a < b → b < c → a < c
  | [], [], _, h, _ => by simp at h
  | [], _ :: _, [], _, h => by simp at h
  | [], _ :: _, _ :: _, _, _ => by simp
  | _ :: _, [], _, h, _ => by simp at h
  | _ :: _, _ :: _, [], _, h => by simp at h
  | a :: s, b :: t, c :: u, h, h' => by
    rw [List.cons_lt_cons_iff] at *
    rcases h with h | ⟨rfl, h⟩
    · rcases h' with h' | ⟨rfl, h'⟩
      · exact .inl (u8_lt_trans h h')
      · exact .inl h
    · rcases h' with h' | ⟨rfl, h'⟩
      · exact .inl h'
      · exact .inr ⟨rfl, bs_lt_trans h h'⟩
theorem ltB_iff (a b : ByteArray) : ltB a b = true ↔ bs a < bs b := by
  unfold ltB
  rw [less_lt, ByteArray.toList_eq, ByteArray.toList_eq]
/-- names rise -/
def Rises (es : List En) : Prop := ∀ i j, i < j → j < es.length → bs (en es i).name < bs (en es j).name
theorem rises_of {es : List En} (h : listP es = true) : Rises es := by
  unfold listP at h
  simp only [Bool.and_eq_true, decide_eq_true_eq] at h
  have hk := allTo_true.1 h.2
  intro i j hij
  obtain ⟨d, rfl⟩ : ∃ d, j = i + 1 + d := ⟨j - (i + 1), by omega⟩
  clear hij
  induction d with
  | zero =>
    intro hj
    have := hk (i + 1) hj
    unfold okE at this
    simp only [Bool.and_eq_true, Bool.or_eq_true, decide_eq_true_eq] at this
    rcases this.2 with h0 | h0
    · omega
    · exact (ltB_iff _ _).1 h0
  | succ d ih =>
    intro hj
    have h1 := ih (by omega)
    have := hk (i + 1 + (d + 1)) hj
    unfold okE at this
    simp only [Bool.and_eq_true, Bool.or_eq_true, decide_eq_true_eq] at this
    rcases this.2 with h0 | h0
    · omega
    · exact bs_lt_trans h1 ((ltB_iff _ _).1 h0)
/-- the node of a name; 0: there is none -/
def findP (es : List En) (t : ByteArray) : Int := match es.find? (fun e => decide (e.name = t)) with
  | none => 0
  | some e => e.node
theorem find_at {es : List En} {t : ByteArray} (hr : Rises es) (k : Nat) (hk : k < es.length) (h : (en es k).name = t) : findP es t = (en es k).node := by
  unfold findP
  have e1 : en es k = es[k] := by simp [en, List.getD, List.getElem?_eq_getElem hk]
  have hf : es.find? (fun e => decide (e.name = t)) = some es[k] := by
    rw [List.find?_eq_some_iff_getElem]
    refine ⟨by rw [← e1]; simp [h], k, hk, rfl, fun j hj => ?_⟩
    have e2 : en es j = es[j] := by simp [en, List.getD, List.getElem?_eq_getElem (show j < es.length by omega)]
    have := hr j k hj hk
    rw [← e2]
    simp only [Bool.not_eq_true', decide_eq_false_iff_not]
    intro e
    rw [e, h] at this
    exact List.lt_irrefl _ this
  rw [hf, e1]
theorem find_no {es : List En} {t : ByteArray} (h : ∀ k, k < es.length → (en es k).name ≠ t) : findP es t = 0 := by
  unfold findP
  have hf : es.find? (fun e => decide (e.name = t)) = none := by
    rw [List.find?_eq_none]
    intro e he
    obtain ⟨k, hk, rfl⟩ := List.getElem_of_mem he
    have e1 : en es k = es[k] := by simp [en, List.getD, List.getElem?_eq_getElem hk]
    have := h k hk
    rw [e1] at this
    simp [this]
  rw [hf]
abbrev fnF : Value := .func (.func 75) #[] #[]
set_option maxRecDepth 100000 in
set_option maxHeartbeats 400000 in
theorem cmp1_any (nm : ByteArray) (no : Int) (t : ByteArray) (w : World) : Calls Try.prog 75 #[.agg #[.string nm, .int .i64 no], .string t] w fun e w' => e = .returned (.int .i64 (Lib.compareBytes (bs nm) (bs t))) ∧ Below w.heap.size w w' := by
  have HC := hide (Try.strings_Compare nm t)
  generalize Lib.compareBytes nm.data.toList t.data.toList = c at *
  have hb0 : Hid (Below w.heap.size w (w.alloc (.cells #[.string nm, .int .i64 no] 71))) := (Below.refl _ _).alloc (Nat.le_refl _) _
  go_enter Try.func75, Try.ntmps75
  go_wp2_with (go_at_call 76; refine (unhide HC _).mono ?_; rintro e w' ⟨rfl, rfl⟩)
  go_ret
  exact ⟨rfl, unhide hb0⟩
set_option maxRecDepth 100000 in
set_option maxHeartbeats 1000000 in
theorem search_any (a : Option Addr) (n cap : Nat) (es : List En) (t : ByteArray) (w : World) (h : Eg w a n cap es) (hr : Rises es) (hn : n ≤ 1000000) :
    Calls Try.prog 74 #[.slice a n cap, .string t, fnF] w fun e w' => Below w.heap.size w w' ∧
      ((∃ k : Nat, k < n ∧ e = .returned (.tuple #[.int .i64 k, .bool true]) ∧ (en es k).name = t) ∨ (∃ k : Nat, k ≤ n ∧ e = .returned (.tuple #[.int .i64 k, .bool false]) ∧ ∀ j, j < n → (en es j).name ≠ t)) := by
  rcases h.cells with rfl | ⟨b, off, rfl, hb, hc⟩
  · go_enter Try.func74, Try.ntmps74
    go_wp2
    refine wp_loop_rounds 1 ?_
    rw [rounds_succ]
    go_wp2
    go_ret2
    exact ⟨Below.refl _ _, .inr ⟨0, Nat.le_refl _, rfl, fun j hj => by omega⟩⟩
  have HC := hide hc
  have HR : Hid (∀ i j, i < j → j < n → bs (en es i).name < bs (en es j).name) := fun i j h1 h2 => hr i j h1 (by rw [h.len]; exact h2)
  have HF := hide cmp1_any
  clear hc h hr
  go_enter Try.func74, Try.ntmps74
  go_wp2
  go_loopw [9, 10] (fun x y wr => ∃ i j : Nat, i ≤ j ∧ j ≤ n ∧ x = .int .i64 i ∧ y = .int .i64 j ∧ Hid (∀ k, k < i → bs (en es k).name < bs t) ∧ Hid (∀ k, j ≤ k → k < n → ¬ bs (en es k).name < bs t) ∧ Hid (Below w.heap.size w wr)) (fun x y _ => (intOf y).toNat - (intOf x).toNat)
  case atStart => exact ⟨0, n, Nat.zero_le _, Nat.le_refl _, rfl, rfl, fun k hk => by omega, fun k h1 h2 => by omega, Below.refl _ _⟩
  case round =>
    obtain ⟨i, j, hij, hjn, rfl, rfl, hlo, hhi, hnx⟩ := hrel
    have hsz := (unhide hnx).size
    by_cases hlt : i < j
    · have hlt' : (i : Int) < (j : Int) := by omega
      obtain ⟨m, hm⟩ : ∃ m, m = (i + j) / 2 := ⟨_, rfl⟩
      have hmn : m < n := by omega
      have he := (unhide HC m hmn).of fun o => (unhide hnx).cell (p := ⟨b, o, none⟩) hb
      have e0 := he.c0
      have e1 := he.c1
      have hmj : Hid (i ≤ m ∧ m < j) := hide ⟨by omega, by omega⟩
      have hdiv : ((i : Int) + (j : Int)) / 2 = (m : Int) := by omega
      clear he hm
      go_upto_region 5 with fail
      clear hdiv
      have hHm : Hid (∀ k, k < m → bs (en es k).name < bs (en es m).name) := fun k hk => unhide HR k m hk hmn
      have hHn : Hid (∀ k, m < k → k < n → bs (en es m).name < bs (en es k).name) := fun k hk hkn => unhide HR m k hk hkn
      obtain ⟨nm, hnm⟩ : ∃ x, x = (en es m).name := ⟨_, rfl⟩
      obtain ⟨no, hno⟩ : ∃ x, x = (en es m).node := ⟨_, rfl⟩
      rw [← hnm] at e0 hHm hHn
      rw [← hno] at e1
      have HF1 := hide (unhide HF nm no t wr)
      have hcl := cmp_lt (bs nm) (bs t)
      generalize Lib.compareBytes (bs nm) (bs t) = c at *
      have HNM := hide hnm
      clear hno hnm
      go_wp2_with fail
      refine (unhide HF1).mono ?_
      rintro e w1 ⟨rfl, b1⟩
      have hB1 := hide ((unhide hnx).trans (b1.mono hsz))
      clear b1 HF1 e0 e1
      by_cases hc0 : c < 0
      · have hlt2 := hide (hcl.1 hc0)
        clear hcl
        go_wp2
        go_roundw
        case rel =>
          refine ⟨m + 1, j, by have := unhide hmj; omega, hjn, by go_num, rfl, fun k hk => ?_, hhi, hB1⟩
          by_cases ek : k = m
          · subst ek; rw [← unhide HNM]; exact unhide hlt2
          · exact bs_lt_trans (unhide hHm k (by omega)) (unhide hlt2)
        case measure => have := unhide hmj; simp [intOf]; omega
      · have hge2 : Hid (¬ bs nm < bs t) := hide (fun h => hc0 (hcl.2 h))
        clear hcl
        go_wp2
        go_roundw
        case rel =>
          refine ⟨i, m, by have := unhide hmj; omega, by omega, rfl, rfl, hlo, fun k hk hkn h => ?_, hB1⟩
          by_cases ek : k = m
          · subst ek; rw [← unhide HNM] at h; exact unhide hge2 h
          · exact unhide hge2 (bs_lt_trans (unhide hHn k (by omega) hkn) h)
        case measure => have := unhide hmj; simp [intOf]; omega
    · obtain rfl : i = j := by omega
      by_cases hin : i < n
      · have hin' : (i : Int) < (n : Int) := by omega
        have he := (unhide HC i hin).of fun o => (unhide hnx).cell (p := ⟨b, o, none⟩) hb
        have e0 := he.c0
        have e1 := he.c1
        clear he
        have hge := hide (unhide hhi i (Nat.le_refl _) hin)
        have hHn : Hid (∀ k, i < k → k < n → bs (en es i).name < bs (en es k).name) := fun k hk hkn => unhide HR i k hk hkn
        obtain ⟨nm, hnm⟩ : ∃ x, x = (en es i).name := ⟨_, rfl⟩
        obtain ⟨no, hno⟩ : ∃ x, x = (en es i).node := ⟨_, rfl⟩
        rw [← hnm] at e0 hHn hge
        rw [← hno] at e1
        have HF1 := hide (unhide HF nm no t wr)
        have hcl := cmp_eq (bs nm) (bs t)
        generalize Lib.compareBytes (bs nm) (bs t) = c at *
        have HNM := hide hnm
        clear hno hnm
        go_wp2_with fail
        refine (unhide HF1).mono ?_
        rintro e w1 ⟨rfl, b1⟩
        have hB1 := hide ((unhide hnx).trans (b1.mono hsz))
        clear b1 HF1 e0 e1
        by_cases hc0 : c = 0
        · have heq : nm = t := ba_ext (hcl.1 hc0)
          subst hc0
          have HEQ := hide heq
          clear heq hcl
          go_wp2
          go_ret2
          exact ⟨unhide hB1, .inl ⟨i, hin, rfl, by rw [← unhide HNM]; exact unhide HEQ⟩⟩
        · have hne : Hid (nm ≠ t) := hide (fun e => hc0 (hcl.2 (by rw [e])))
          have hc1 : (c == 0) = false := by simp [hc0]
          clear hcl hc0
          go_wp2
          go_ret2
          refine ⟨unhide hB1, .inr ⟨i, by omega, rfl, fun k hk e => ?_⟩⟩
          by_cases h1 : k < i
          · have := unhide hlo k h1
            rw [e] at this; exact List.lt_irrefl _ this
          · by_cases h2 : k = i
            · subst h2; rw [← unhide HNM] at e; exact unhide hne e
            · have := unhide hHn k (by omega) hk
              rw [e] at this
              exact unhide hge this
      · have hin' : (n : Int) ≤ (i : Int) := by omega
        go_wp2
        go_ret2
        refine ⟨unhide hnx, .inr ⟨i, by omega, rfl, fun k hk e => ?_⟩⟩
        have := unhide hlo k (by omega)
        rw [e] at this; exact List.lt_irrefl _ this
def findV (now : Int) (ns : List Nd) (i : Int) (t : ByteArray) : Int := if isDirP now ns i then findP (nd ns i.toNat).list t else 0
theorem dir_list {now : Int} {ns : List Nd} {i : Nat} (h : isDirP now ns (i : Int) = true) : checkP now ns = true ∧ 0 < i ∧ i < ns.length ∧ (nd ns i).kind = 2 ∧ listP (nd ns i).list = true := by
  unfold isDirP nodeP at h
  simp only [Bool.and_eq_true, decide_eq_true_eq, Int.toNat_natCast] at h
  obtain ⟨⟨⟨⟨h1, h2⟩, h3⟩, h4⟩, h5⟩ := h
  refine ⟨h1, by omega, by omega, h5, ?_⟩
  unfold checkP nodesP at h1
  simp only [Bool.and_eq_true] at h1
  have := allTo_true.1 h1.1.2 i (by omega)
  unfold nodeOk kindP at this
  rw [h5] at this
  simp only [show ¬ ((2 : UInt8) = 0) by decide, show ¬ ((2 : UInt8) = 1) by decide, if_false, if_true] at this
  unfold dirP at this
  simp only [Bool.and_eq_true] at this
  exact this.1.1.2
end Go.Proofs.Ytbajjbgeohbdjaa.Tr
