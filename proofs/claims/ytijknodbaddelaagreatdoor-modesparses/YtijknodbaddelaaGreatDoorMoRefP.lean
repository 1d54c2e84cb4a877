/- The document's reading of a clause, action by action: it is what stepP does, sign by sign. -/
import Derived.Test.YtijknodbaddelaaGreatDoorMoParse
namespace Go.Proofs.YtijknodbaddelaaGreatDoor.Mo
open Go.RowKit Go.Shelf

def bitZ (r : Int) : Int := if r = 114 then 4 else if r = 119 then 2 else if r = 120 then 1 else 0
theorem bitZ_nat (r : Int) : ∃ n : Nat, bitZ r = (n : Int) ∧ n < 8 := by
  unfold bitZ
  split
  · exact ⟨4, rfl, by decide⟩
  · split
    · exact ⟨2, rfl, by decide⟩
    · split
      · exact ⟨1, rfl, by decide⟩
      · exact ⟨0, rfl, by decide⟩
theorem bitZ_pos {r : Int} (h : 0 < bitZ r) : r = 114 ∨ r = 119 ∨ r = 120 := by
  unfold bitZ at h
  split at h
  · exact .inl ‹_›
  · split at h
    · exact .inr (.inl ‹_›)
    · split at h
      · exact .inr (.inr ‹_›)
      · omega
theorem or8 (a b : Nat) (ha : a < 8) (hb : b < 8) : orI (a : Int) (b : Int) = ((a ||| b : Nat) : Int) ∧ a ||| b < 8 :=
  ⟨bits_or_nat a b (by omega) (by omega), Nat.or_lt_two_pow (n := 3) ha hb⟩
theorem or_ne {a b : Nat} (h : a ≠ 0 ∨ b ≠ 0) : a ||| b ≠ 0 := by
  intro e
  have h1 : a ≤ a ||| b := Nat.left_le_or
  have h2 : b ≤ a ||| b := Nat.right_le_or
  omega
/-- a sign that an action's loop takes -/
theorem add_go (who : Int) (op : UInt8) (b : Nat) (d : Bool) (r : Int) (hb : b < 8) (h : 0 < bitZ r ∨ r = 88) :
    ∃ n : Nat, n < 8 ∧ orI (b : Int) (bitZ r) = (n : Int) ∧ addP ⟨who, op, (b : Int), 0, d⟩ r = some ⟨who, op, (n : Int), 0, d || r == 88⟩ ∧ (n ≠ 0 ∨ (d || r == 88) = true) ∧ isOp r = false := by
  obtain ⟨q, hq, hq8⟩ := bitZ_nat r
  obtain ⟨e1, e2⟩ := or8 b q hb hq8
  refine ⟨b ||| q, e2, by rw [hq, e1], ?_⟩
  rcases h with h | rfl
  · have hq0 : q ≠ 0 := by omega
    have hne := or_ne (a := b) (b := q) (.inr hq0)
    rcases bitZ_pos h with rfl | rfl | rfl
    · obtain rfl : q = 4 := by have : bitZ 114 = 4 := rfl; omega
      refine ⟨?_, .inl hne, rfl⟩
      simp only [addP]
      rw [← e1]
      simp
    · obtain rfl : q = 2 := by have : bitZ 119 = 2 := rfl; omega
      refine ⟨?_, .inl hne, rfl⟩
      simp only [addP]
      rw [← e1]
      simp
    · obtain rfl : q = 1 := by have : bitZ 120 = 1 := rfl; omega
      refine ⟨?_, .inl hne, rfl⟩
      simp only [addP]
      rw [← e1]
      simp
  · obtain rfl : q = 0 := by have : bitZ 88 = 0 := rfl; omega
    refine ⟨?_, .inr (by simp), rfl⟩
    simp [addP]
/-- a sign that it does not take -/
theorem add_end (who : Int) (op : UInt8) (b : Nat) (d : Bool) (r : Int) (h1 : ¬ 0 < bitZ r) (h2 : r ≠ 88) (h : (r ≠ 117 ∧ r ≠ 103 ∧ r ≠ 111) ∨ b ≠ 0 ∨ d = true) : addP ⟨who, op, (b : Int), 0, d⟩ r = none := by
  have k1 : r ≠ 114 := by rintro rfl; exact h1 (by decide)
  have k2 : r ≠ 119 := by rintro rfl; exact h1 (by decide)
  have k3 : r ≠ 120 := by rintro rfl; exact h1 (by decide)
  unfold addP
  rw [if_neg (by simp), if_neg k1, if_neg k2, if_neg k3, if_neg h2]
  rcases h with ⟨a1, a2, a3⟩ | h
  · rw [if_neg (by simp [a1, a2, a3])]
  · split
    · rw [if_pos]
      rcases h with h | h
      · exact .inl (by simp; omega)
      · exact .inr h
    · rfl
/-- what is read of b by i bytes is one action's beginning -/
def Runs (b : Bs) (who : Int) (i : Nat) (x : Ch) : Prop := ∀ st : St, st.who = who → runP st (b.take i) = some ⟨who, st.all, some x⟩
theorem op_back {c : UInt8} : UInt8.ofNat ((c.toNat : Int)).toNat = c := by simp
theorem Runs.start {b : Bs} {who : Int} {c : UInt8} (h : b[0]? = some c) (ho : isOp (c.toNat : Int) = true) : Runs b who 1 ⟨who, c, 0, 0, false⟩ := by
  intro st hw
  cases b with
  | nil => cases h
  | cons d r =>
    simp only [List.getElem?_cons_zero, Option.some.injEq] at h
    subst h
    rw [List.take_succ_cons, List.take_zero, runP, step_op _ _ ho, op_back, hw]
    rfl
theorem Runs.snoc {b : Bs} {who : Int} {i : Nat} {x x' : Ch} {c : UInt8} (h : Runs b who i x) (hc : b[i]? = some c) (ho : isOp (c.toNat : Int) = false) (ha : addP x (c.toNat : Int) = some x') : Runs b who (i + 1) x' := by
  intro st hw
  have hi : i < b.length := (List.getElem?_eq_some_iff.1 hc).1
  have he : b[i] = c := (List.getElem?_eq_some_iff.1 hc).2
  rw [List.take_succ_eq_append_getElem hi, he, runP_snoc (h st hw), step_add ho rfl, ha]
  rfl
/-- a text begins with an action of n bytes, x -/
structure Act (b : Bs) (who : Int) (n : Nat) (x : Ch) : Prop where
  lo : 1 ≤ n
  hi : n ≤ b.length
  run : Runs b who n x
  stop : ∀ c, b[n]? = some c → isOp (c.toNat : Int) = false → addP x (c.toNat : Int) = none
theorem Act.copy {b : Bs} {who : Int} {c d : UInt8} (h : b[0]? = some c) (ho : isOp (c.toNat : Int) = true) (h1 : b[1]? = some d) (hd : (d.toNat : Int) = 117 ∨ (d.toNat : Int) = 103 ∨ (d.toNat : Int) = 111) : Act b who 2 ⟨who, c, 0, d, false⟩ := by
  have hi : 1 < b.length := (List.getElem?_eq_some_iff.1 h1).1
  have hd0 : d ≠ 0 := by rintro rfl; simp at hd
  refine ⟨by omega, by omega, (Runs.start h ho).snoc h1 ?_ ?_, fun c _ _ => ?_⟩
  · rcases hd with e | e | e <;> rw [e] <;> rfl
  · unfold addP
    have e0 : UInt8.ofNat ((d.toNat : Int)).toNat = d := op_back
    rw [if_neg (by simp), if_neg (by omega), if_neg (by omega), if_neg (by omega), if_neg (by omega), if_pos hd, if_neg (by simp), e0]
  · unfold addP
    rw [if_pos hd0]
/-- between the actions of a clause: i bytes are read; a sign that begins none cannot stand there -/
structure Mid (b : Bs) (i : Nat) (st : St) : Prop where
  run : runP st0 (b.take i) = some st
  le : i ≤ b.length
  stop : ∀ c, b[i]? = some c → isOp (c.toNat : Int) = false → stepP st (c.toNat : Int) = none
theorem take_more (b : Bs) (i n : Nat) : b.take (i + n) = b.take i ++ (b.drop i).take n := List.take_add
theorem Mid.act {b : Bs} {i n : Nat} {st : St} {x : Ch} (h : Mid b i st) (ha : Act (b.drop i) st.who n x) : Mid b (i + n) ⟨st.who, st.all, some x⟩ := by
  have hh := ha.hi
  rw [List.length_drop] at hh
  have hl := ha.lo
  refine ⟨?_, by omega, ?_⟩
  · rw [take_more, runP_app, h.run]
    exact ha.run st rfl
  · intro c hc ho
    rw [step_add ho rfl, ha.stop c (by rw [List.getElem?_drop]; exact hc) ho]
    rfl
theorem Mid.bad {b : Bs} {i : Nat} {st : St} {c : UInt8} (h : Mid b i st) (hc : b[i]? = some c) (ho : isOp (c.toNat : Int) = false) : clauseP b = none := by
  have hi : i < b.length := (List.getElem?_eq_some_iff.1 hc).1
  have he : b[i] = c := (List.getElem?_eq_some_iff.1 hc).2
  have h1 : runP st0 (b.take (i + 1)) = none := by rw [List.take_succ_eq_append_getElem hi, he, runP_snoc h.run, h.stop c hc ho]
  have h2 := runP_none (b := b.drop (i + 1)) h1
  rw [List.take_append_drop] at h2
  unfold clauseP
  rw [h2]
theorem Mid.done {b : Bs} {st : St} (h : Mid b b.length st) : clauseP b = if 0 < st.all.length then some st.all else none := by
  have hr := h.run
  rw [List.take_of_length_le (Nat.le_refl _)] at hr
  have hn := runP_nil hr (fun _ => rfl)
  unfold clauseP
  rw [hr]
  simp only
  cases hc : st.cur with
  | none => rw [if_neg (by simp), if_neg (by simp [St.all, hc, hn hc])]
  | some x => rw [if_pos (by simp), if_pos (by simp [St.all, hc])]
theorem Mid.len {b : Bs} {i : Nat} {st : St} (h : Mid b i st) : st.all.length ≤ i := by
  have := runP_len h.run
  rw [List.length_take] at this
  simp [St.all, st0] at this ⊢
  omega
/-- the letters ahead of the first action -/
theorem who_step {b : Bs} {i : Nat} {w : Int} {c : UInt8} (h : runP st0 (b.take i) = some ⟨w, [], none⟩) (hc : b[i]? = some c) (hw : whoZ (c.toNat : Int) ≠ 0) : runP st0 (b.take (i + 1)) = some ⟨orI w (whoZ (c.toNat : Int)), [], none⟩ := by
  have hi : i < b.length := (List.getElem?_eq_some_iff.1 hc).1
  have he : b[i] = c := (List.getElem?_eq_some_iff.1 hc).2
  have ho : isOp (c.toNat : Int) = false := by
    cases hh : isOp (c.toNat : Int)
    · rfl
    · exfalso
      have hr : (c.toNat : Int) = 43 ∨ (c.toNat : Int) = 45 ∨ (c.toNat : Int) = 61 := by simpa [isOp, or_assoc] using hh
      rcases hr with e | e | e <;> rw [e] at hw <;> exact hw rfl
  rw [List.take_succ_eq_append_getElem hi, he, runP_snoc h, step_who ho rfl, if_neg hw]
theorem who_stop {b : Bs} {i : Nat} {w : Int} (h : runP st0 (b.take i) = some ⟨w, [], none⟩) (hi : i ≤ b.length) (hs : ∀ c, b[i]? = some c → whoZ (c.toNat : Int) = 0) : Mid b i ⟨w, [], none⟩ :=
  ⟨h, hi, fun c hc ho => by rw [step_who ho rfl, if_pos (hs c hc)]⟩
end Go.Proofs.YtijknodbaddelaaGreatDoor.Mo
