/- What the document's place, item and Parse answer. -/
import Derived.Test.YtijoemamnkhhnaaGreatDoorLsParse
namespace Go.Proofs.YtijoemamnkhhnaaGreatDoor.Ls
open Go.RowKit Go.Shelf

theorem ret_int {k : IntKind} {a b : Int} (h : a = b) : Ending.returned (.int k a) = .returned (.int k b) := by rw [h]
set_option maxHeartbeats 400000 in
theorem rplace_any (s : ByteArray) (w : World) (hs : s.size ≤ 4611686018427387904) :
    Calls Tryz.prog 56 #[.string s] w fun e w' => e = .returned (.int .i64 (place (bs s) : Int)) ∧ w' = w := by
  by_cases h0 : s.size = 0
  · have h0' : (s.size : Int) < 1 := by omega
    have hp := hide (place_no (s := bs s) (.inl (by rw [show bs s = [] from List.eq_nil_of_length_eq_zero h0]; rfl)))
    clear h0
    go_enter Tryz.func56, Tryz.ntmps56
    go_wp2
    go_ret
    exact ⟨ret_int (by rw [unhide hp]; rfl), rfl⟩
  · have h1 : ¬ (s.size : Int) < 1 := by omega
    have hpos : 0 < s.size := by omega
    obtain ⟨l, hl⟩ := bs_cons s hpos
    by_cases h10 : 10 < (s.size : Int)
    · have hp := hide (place_no_len (s := bs s) (by rw [bs_len]; omega))
      clear hl h0
      go_enter Tryz.func56, Tryz.ntmps56
      go_wp2
      go_ret
      exact ⟨ret_int (by rw [unhide hp]; rfl), rfl⟩
    · by_cases hz : s[0].toNat = 48
      · have hx : ((s[0].toNat : Int) == 48) = true := by simp [hz]
        have hp := hide (place_no (s := bs s) (.inl (by rw [hl]; exact hz)))
        clear hz hl h0
        go_enter Tryz.func56, Tryz.ntmps56
        go_wp2
        go_ret
        exact ⟨ret_int (by rw [unhide hp]; rfl), rfl⟩
      · have hx : ((s[0].toNat : Int) == 48) = false := by simp; omega
        have HL := hide hl
        have HZ := hide hz
        clear hl hz h0
        go_enter Tryz.func56, Tryz.ntmps56
        go_wp2
        go_loop [3, 4] (fun n i => ∃ k v : Nat, k ≤ s.size ∧ i = .int .i64 k ∧ n = .int .i64 v ∧ v ≤ 9999999999 ∧ Hid (((bs s).take k).all dig = true ∧ nval ((bs s).take k) = v)) (fun _ i => s.size - (intOf i).toNat)
        case atStart => exact ⟨0, 0, Nat.zero_le _, rfl, rfl, by omega, rfl, rfl⟩
        case round =>
          obtain ⟨k, v, hk, rfl, rfl, hv, ha⟩ := hrel
          by_cases hlt : k < s.size
          · by_cases hd : 48 ≤ (s[k].toNat : Int) ∧ (s[k].toNat : Int) ≤ 57
            · have st := hide (take_step s k hlt (unhide ha).1 hd.1 hd.2)
              have hv2 := hide (unhide ha).2
              have hv3 : v * 10 + (s[k].toNat - 48) ≤ 9999999999 := by
                have h1 := nval_lt _ (unhide st).1
                have h2 : 10 ^ ((bs s).take (k + 1)).length ≤ 10 ^ 10 := Nat.pow_le_pow_right (by omega) (by rw [List.length_take, bs_len]; omega)
                have h3 := (unhide st).2
                have h4 := unhide hv2
                omega
              obtain ⟨hd1, hd2⟩ := hd
              clear ha
              go_wp2
              go_round
              case rel => exact ⟨k + 1, v * 10 + (s[k].toNat - 48), by omega, by go_num, by go_num, by omega, (unhide st).1, by rw [(unhide st).2, unhide hv2]⟩
              case measure => simp [intOf]; omega
            · have hp : Hid (place (bs s) = 0) := place_no (.inr (.inl (take_stop s k hlt hd)))
              clear ha
              go_wp2
              all_goals
                go_ret
                exact ⟨ret_int (by rw [unhide hp]; rfl), rfl⟩
          · have ht : (bs s).take k = bs s := List.take_of_length_le (by rw [bs_len]; omega)
            have h1 := unhide ha
            rw [ht] at h1
            by_cases hb : 2147483647 < (v : Int)
            · have hp : Hid (place (bs s) = 0) := place_no (.inr (.inr (by omega)))
              clear ha ht h1
              go_wp2
              go_ret
              exact ⟨ret_int (by rw [unhide hp]; rfl), rfl⟩
            · have hp : Hid (place (bs s) = v) := by
                rw [unhide HL] at h1 ⊢
                have := place_of (c := s[0]) (l := l) (unhide HZ) h1.1 (by omega)
                show _ = _
                rw [this.1]; exact h1.2
              clear ha ht h1
              go_wp2
              go_ret
              exact ⟨ret_int (by rw [unhide hp]), rfl⟩

theorem cut_at (s : ByteArray) : (cutD (bs s) = none ∧ ∀ k (h : k < s.size), ((s[k].toNat : Int) != 45) = true) ∨ ∃ st, st < s.size ∧ (∀ (h : st < s.size), ((s[st].toNat : Int) != 45) = false) ∧ (∀ k (h : k < s.size), k < st → ((s[k].toNat : Int) != 45) = true) ∧ cutD (bs s) = some ((bs s).take st, (bs s).drop (st + 1)) := by
  have hg : ∀ k (h : k < s.size), ∃ h' : k < (bs s).length, (bs s)[k] = s[k] := fun k h => ⟨h, rfl⟩
  have key : ∀ c : UInt8, c ≠ 45 → ((c.toNat : Int) != 45) = true := fun c hc => by
    simp only [bne_iff_ne, ne_eq]
    intro e
    exact hc (UInt8.toNat_inj.1 (by simp; omega))
  rcases cutD_cases (bs s) with ⟨h1, h2⟩ | ⟨a, b, h1, h2, h3⟩
  · exact .inl ⟨h1, fun k h => key _ (h2 _ (List.getElem_mem (l := bs s) (n := k) h))⟩
  · right
    have hl : a.length < s.size := by rw [← bs_len, h2]; simp
    refine ⟨a.length, hl, fun h => ?_, fun k h hk => ?_, ?_⟩
    · obtain ⟨h', e⟩ := hg a.length h
      rw [← e]
      have : (bs s)[a.length] = 45 := by simp [h2]
      rw [this]; rfl
    · obtain ⟨h', e⟩ := hg k h
      rw [← e]
      refine key _ (h3 _ ?_)
      have : (bs s)[k] = a[k] := by simp [h2, List.getElem_append_left hk]
      rw [this]; exact List.getElem_mem hk
    · rw [h1]; simp [h2]
end Go.Proofs.YtijoemamnkhhnaaGreatDoor.Ls
