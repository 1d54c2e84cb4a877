/- What readPlace and the four readers answer, and readItem. -/
import Derived.Test.YtijoemamnkhhnaaGreatDoorRows
import Derived.Test.YtijoemamnkhhnaaGreatDoorLsPlain
import Derived.Test.YtijoemamnkhhnaaGreatDoorLsShelf
import Derived.WalkKit
import Derived.WalkMore
import Derived.WalkSmall
import Derived.WalkSpells
import Derived.Laws.OwnMore
import Derived.Lib.CutLaws
namespace Go.Proofs.YtijoemamnkhhnaaGreatDoor.Ls
open Go.RowKit Go.Shelf

theorem hide {p : Prop} (h : p) : Hid p := h
theorem unhide {p : Prop} (h : Hid p) : p := h.out

abbrev bs (s : ByteArray) : List UInt8 := s.data.toList
theorem bs_len (s : ByteArray) : (bs s).length = s.size := rfl
def placeV (s : ByteArray) : Value := .tuple #[.int .i64 (place (bs s) : Int), .bool (decide (place (bs s) ≠ 0))]
theorem fin_no {s : ByteArray} (h : place (bs s) = 0) : Ending.returned (.tuple #[.int .i64 0, .bool false]) = .returned (placeV s) := by
  unfold placeV; rw [h]; rfl
theorem fin_yes {s : ByteArray} {n : Nat} (h : place (bs s) = n ∧ place (bs s) ≠ 0) : Ending.returned (.tuple #[.int .i64 (n : Int), .bool true]) = .returned (placeV s) := by
  unfold placeV; rw [decide_eq_true h.2, h.1]
theorem toList_ne (s : ByteArray) (h : 0 < s.size) : s.toList.isEmpty = false := by
  rw [ByteArray.toList_eq]
  have h2 : s.data.toList.length = s.size := rfl
  cases e : s.data.toList with
  | nil => rw [e] at h2; simp at h2; omega
  | cons a l => rfl
theorem bs_cons (s : ByteArray) (h : 0 < s.size) : ∃ l, bs s = s[0] :: l := by
  have h2 : s.data.toList.length = s.size := rfl
  cases e : bs s with
  | nil => rw [show s.data.toList = [] from e] at h2; simp at h2; omega
  | cons a l =>
    refine ⟨l, ?_⟩
    have : s[0] = (bs s)[0]'(by rw [bs_len]; exact h) := rfl
    rw [this]
    simp [e]
theorem take_step (s : ByteArray) (k : Nat) (h : k < s.size) (ha : ((bs s).take k).all dig = true) (h1 : 48 ≤ (s[k].toNat : Int)) (h2 : (s[k].toNat : Int) ≤ 57) :
    ((bs s).take (k + 1)).all dig = true ∧ nval ((bs s).take (k + 1)) = nval ((bs s).take k) * 10 + (s[k].toNat - 48) := by
  have hk : k < (bs s).length := h
  have e : (bs s)[k] = s[k] := rfl
  rw [List.take_succ_eq_append_getElem hk, nval_snoc, e]
  refine ⟨?_, rfl⟩
  rw [List.all_append, ha]
  simp [dig]
  omega
theorem take_stop (s : ByteArray) (k : Nat) (h : k < s.size) (h1 : ¬ (48 ≤ (s[k].toNat : Int) ∧ (s[k].toNat : Int) ≤ 57)) : (bs s).all dig = false := by
  rw [List.all_eq_false]
  refine ⟨s[k], List.getElem_mem (l := bs s) (n := k) h, ?_⟩
  simp [dig]
  omega

set_option maxHeartbeats 400000 in
theorem readPlace_any (s : ByteArray) (w : World) (hs : s.size ≤ 4611686018427387904) :
    Calls Tryz.prog 81 #[.string s] w fun e w' => e = .returned (placeV s) ∧ w' = w := by
  by_cases h0 : s.size = 0
  · have he : s.toList = [] := by rw [ByteArray.toList_eq]; exact List.eq_nil_of_length_eq_zero h0
    have hp := hide (place_no (s := bs s) (.inl (by rw [show bs s = [] from List.eq_nil_of_length_eq_zero h0]; rfl)))
    go_enter Tryz.func81, Tryz.ntmps81
    go_wp2
    go_ret2
    exact ⟨fin_no (unhide hp), rfl⟩
  · have hpos : 0 < s.size := by omega
    have he := toList_ne s hpos
    obtain ⟨l, hl⟩ := bs_cons s hpos
    by_cases hz : s[0].toNat = 48
    · have hx : ((s[0].toNat : Int) == 48) = true := by simp [hz]
      have hp := hide (place_no (s := bs s) (.inl (by rw [hl]; exact hz)))
      clear hz hl
      go_enter Tryz.func81, Tryz.ntmps81
      go_wp2
      go_ret2
      exact ⟨fin_no (unhide hp), rfl⟩
    · have hx : ((s[0].toNat : Int) == 48) = false := by simp; omega
      have HL := hide hl
      have HZ := hide hz
      clear hl hz
      go_enter Tryz.func81, Tryz.ntmps81
      go_wp2
      go_loop [4, 5] (fun n i => ∃ k v : Nat, k ≤ s.size ∧ i = .int .i64 k ∧ n = .int .i64 v ∧ v ≤ 2147483647 ∧ Hid (((bs s).take k).all dig = true ∧ nval ((bs s).take k) = v)) (fun _ i => s.size - (intOf i).toNat)
      case atStart => exact ⟨0, 0, Nat.zero_le _, rfl, rfl, by omega, rfl, rfl⟩
      case round =>
        obtain ⟨k, v, hk, rfl, rfl, hv, ha⟩ := hrel
        by_cases hlt : k < s.size
        · by_cases hd : 48 ≤ (s[k].toNat : Int) ∧ (s[k].toNat : Int) ≤ 57
          · have st := hide (take_step s k hlt (unhide ha).1 hd.1 hd.2)
            have hv2 := hide (unhide ha).2
            obtain ⟨hd1, hd2⟩ := hd
            by_cases hb : (v : Int) * 10 + ((s[k].toNat : Int) - 48) ≤ 2147483647
            · have hq : ¬ (2147483647 - ((s[k].toNat : Int) - 48)) / 10 < (v : Int) := by omega
              clear ha
              go_wp2
              go_round
              case rel => exact ⟨k + 1, v * 10 + (s[k].toNat - 48), by omega, by go_num, by go_num, by omega, (unhide st).1, by rw [(unhide st).2, unhide hv2]⟩
              case measure => simp [intOf]; omega
            · have hq : (2147483647 - ((s[k].toNat : Int) - 48)) / 10 < (v : Int) := by omega
              have hp : Hid (place (bs s) = 0) := place_no (.inr (.inr (by
                have h1 := nval_take_le (bs s) (k + 1)
                have h2 := (unhide st).2
                have h3 := unhide hv2
                omega)))
              clear ha st
              go_wp2
              go_ret2
              exact ⟨fin_no (unhide hp), rfl⟩
          · have hp : Hid (place (bs s) = 0) := place_no (.inr (.inl (take_stop s k hlt hd)))
            clear ha
            go_wp2
            all_goals
              go_ret2
              exact ⟨fin_no (unhide hp), rfl⟩
        · have ht : (bs s).take k = bs s := List.take_of_length_le (by rw [bs_len]; omega)
          have hp : Hid (place (bs s) = v ∧ place (bs s) ≠ 0) := by
            have h1 := unhide ha
            rw [ht] at h1
            rw [unhide HL] at h1 ⊢
            have := place_of (c := s[0]) (l := l) (unhide HZ) h1.1 (by omega)
            exact ⟨by rw [this.1]; exact h1.2, this.2⟩
          clear ha ht
          go_wp2
          go_ret2
          exact ⟨fin_yes (unhide hp), rfl⟩
end Go.Proofs.YtijoemamnkhhnaaGreatDoor.Ls
