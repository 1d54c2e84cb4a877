/- What the document's item and Parse answer. -/
import Derived.Test.YtijoemamnkhhnaaGreatDoorLsRefParse
namespace Go.Proofs.YtijoemamnkhhnaaGreatDoor.Ls
open Go.RowKit Go.Shelf

/-- what an item answers: its range, or none -/
def ItemPost (w : World) (s : List UInt8) (e : Ending) (w' : World) : Prop :=
  (∃ a b : Int, e = .returned (rV a b true) ∧ item s = some (a, b) ∧ Below w.heap.size w w') ∨ (∃ a b : Int, e = .returned (rV a b false) ∧ item s = none ∧ Below w.heap.size w w')
theorem itemPost_of {w w' : World} {s : List UInt8} {a b : Int} {ok : Bool} (h : item s = if ok = true then some (a, b) else none) (hb : Below w.heap.size w w') : ItemPost w s (.returned (rV a b ok)) w' := by
  cases ok
  · exact .inr ⟨a, b, rfl, by simpa using h, hb⟩
  · exact .inl ⟨a, b, rfl, by simpa using h, hb⟩
theorem item_cut {s a b : List UInt8} (h : cutD s = some (a, b)) : (a = [] → item s = if place b = 0 then none else some ((1 : Int), (place b : Int))) ∧ (a ≠ [] → b = [] → item s = if place a = 0 then none else some ((place a : Int), (0 : Int))) ∧
    (a ≠ [] → b ≠ [] → item s = if place a = 0 ∨ place b < place a then none else some ((place a : Int), (place b : Int))) := by
  unfold item
  rw [h]
  cases a with
  | nil => exact ⟨fun _ => rfl, fun h => absurd rfl h, fun h => absurd rfl h⟩
  | cons c t =>
    cases b with
    | nil => exact ⟨fun h => absurd h (by simp), fun _ _ => rfl, fun _ h => absurd rfl h⟩
    | cons d u => exact ⟨fun h => absurd h (by simp), fun _ h => absurd h (by simp), fun _ _ => rfl⟩
theorem rplace_is {s : ByteArray} {n : Nat} (w : World) (hs : s.size ≤ 4611686018427387904) (hn : Hid (place (bs s) = n)) :
    Calls Tryz.prog 56 #[.string s] w fun e w' => e = .returned (.int .i64 (n : Int)) ∧ w' = w := by
  have := rplace_any s w hs
  rw [unhide hn] at this
  exact this

set_option maxHeartbeats 1000000 in
set_option maxRecDepth 100000 in
theorem ritem_none (s : ByteArray) (w : World) (hs : s.size ≤ 4611686018427387904) (h1 : cutD (bs s) = none) (h2 : ∀ k (h : k < s.size), ((s[k].toNat : Int) != 45) = true) :
    Calls Tryz.prog 13 #[.string s] w (ItemPost w (bs s)) := by
  obtain ⟨n, hn⟩ : ∃ n, place (bs s) = n := ⟨_, rfl⟩
  have HN := hide hn
  have HI : Hid (item (bs s) = if decide (0 < (n : Int)) = true then some ((n : Int), (n : Int)) else none) := by
    show _ = _
    unfold item
    rw [h1, hn]
    by_cases h : n = 0
    · simp [h]
    · have : 0 < n := by omega
      simp [h, this]
  have H2 := hide h2
  clear h1 h2 hn
  go_enter Tryz.func13, Tryz.ntmps13
  go_wp2_with fail
  go_loop [4] (fun i => ∃ k : Nat, k ≤ s.size ∧ i = .int .i64 k) (fun i => s.size - (intOf i).toNat)
  case atStart => exact ⟨0, Nat.zero_le _, rfl⟩
  case round =>
    obtain ⟨k, hk, rfl⟩ := hrel
    by_cases hlt : k < s.size
    · have hb := unhide H2 k hlt
      go_wp2_with fail
      go_round
      case rel => exact ⟨k + 1, by omega, by go_num⟩
      case measure => simp [intOf]; omega
    · have he : ((k : Int) == (s.size : Int)) = true := by simp; omega
      go_wp2_with fail
      refine (rplace_is _ hs HN).mono ?_
      rintro e w1 ⟨rfl, rfl⟩
      go_wp2_with fail
      refine bodyPost_ret (v := .tuple #[.agg #[.int .i64 n, .int .i64 n], .bool (decide (0 < (n : Int)))]) (by simp [results, Tryz.results13, go_sem]) rfl (itemPost_of (unhide HI) ?_)
      repeat (first | exact Below.refl _ _ | apply Below.setCell | apply Below.alloc | simp)

set_option maxHeartbeats 1000000 in
set_option maxRecDepth 100000 in
theorem ritem_some (s : ByteArray) (st : Nat) (w : World) (hs : s.size ≤ 4611686018427387904) (hst : st < s.size) (h0 : ∀ (h : st < s.size), ((s[st].toNat : Int) != 45) = false) (h2 : ∀ k (h : k < s.size), k < st → ((s[k].toNat : Int) != 45) = true) (h1 : cutD (bs s) = some ((bs s).take st, (bs s).drop (st + 1))) :
    Calls Tryz.prog 13 #[.string s] w (ItemPost w (bs s)) := by
  have hL := hide h0
  have H2 := hide h2
  obtain ⟨n, hn⟩ : ∃ n, place (bs (s.extract 0 st)) = n := ⟨_, rfl⟩
  obtain ⟨m, hm⟩ : ∃ m, place (bs (s.extract (st + 1) s.size)) = m := ⟨_, rfl⟩
  have e1 : place ((bs s).take st) = n := by rw [← ext_head]; exact hn
  have e2 : place ((bs s).drop (st + 1)) = m := by rw [← ext_tail]; exact hm
  have HN := hide hn
  have HM := hide hm
  have l1 : ((bs s).take st).length = st := by rw [List.length_take, bs_len]; omega
  have l2 : ((bs s).drop (st + 1)).length = s.size - (st + 1) := by rw [List.length_drop, bs_len]
  have c0 : st = 0 → item (bs s) = if decide (0 < (m : Int)) = true then some ((1 : Int), (m : Int)) else none := fun h => by
    rw [(item_cut h1).1 (List.eq_nil_of_length_eq_zero (by omega)), e2]
    by_cases h : m = 0
    · simp [h]
    · have : 0 < m := by omega
      simp [h, this]
  have c1 : st ≠ 0 → st + 1 = s.size → item (bs s) = if decide (0 < (n : Int)) = true then some ((n : Int), (0 : Int)) else none := fun h hh => by
    have ha : (bs s).take st ≠ [] := fun e => by rw [e] at l1; simp at l1; omega
    rw [(item_cut h1).2.1 ha (List.eq_nil_of_length_eq_zero (by omega)), e1]
    by_cases h : n = 0
    · simp [h]
    · have : 0 < n := by omega
      simp [h, this]
  have c2 : st ≠ 0 → st + 1 ≠ s.size → item (bs s) = if (decide (0 < (n : Int)) && decide ((n : Int) ≤ (m : Int))) = true then some ((n : Int), (m : Int)) else none := fun h hh => by
    have ha : (bs s).take st ≠ [] := fun e => by rw [e] at l1; simp at l1; omega
    have hb : (bs s).drop (st + 1) ≠ [] := fun e => by rw [e] at l2; simp at l2; omega
    rw [(item_cut h1).2.2 ha hb, e1, e2]
    by_cases h : n = 0 ∨ m < n
    · rw [if_pos h, if_neg]
      simp only [Bool.and_eq_true, decide_eq_true_eq]
      omega
    · rw [if_neg h, if_pos]
      simp only [Bool.and_eq_true, decide_eq_true_eq]
      omega
  have z1 : (s.extract 0 st).size ≤ s.size := by simp; omega
  have z2 : (s.extract (st + 1) s.size).size ≤ s.size := by simp
  have C0 := hide c0
  have C1 := hide c1
  have C2 := hide c2
  clear l1 l2 c0 c1 c2 e1 e2 hn hm h0 h1 h2
  go_enter Tryz.func13, Tryz.ntmps13
  go_wp2_with fail
  go_loop [4] (fun i => ∃ k : Nat, k ≤ st ∧ i = .int .i64 k) (fun i => st - (intOf i).toNat)
  case atStart => exact ⟨0, Nat.zero_le _, rfl⟩
  case round =>
    obtain ⟨k, hk, rfl⟩ := hrel
    by_cases hlt : k < st
    · have hks : k < s.size := by omega
      have hb := unhide H2 k hks hlt
      go_wp2_with fail
      go_round
      case rel => exact ⟨k + 1, by omega, by go_num⟩
      case measure => simp [intOf]; omega
    · obtain rfl : k = st := by omega
      have hb := unhide hL hst
      have he : ((k : Int) == (s.size : Int)) = false := by simp; omega
      have P1 := hide (fun w => rplace_is w (by omega) HN)
      have P2 := hide (fun w => rplace_is w (by omega) HM)
      clear hk hlt HN HM hL H2
      by_cases hk0 : k = 0
      · have HI := hide (unhide C0 hk0)
        have hk0' : ((k : Int) == 0) = true := by simp [hk0]
        clear hk0 C0 C1 C2
        go_wp2_with fail
        refine (unhide P1 _).mono ?_
        rintro e w1 ⟨rfl, rfl⟩
        go_wp2_with fail
        refine (unhide P2 _).mono ?_
        rintro e w2 ⟨rfl, rfl⟩
        go_wp2_with fail
        refine bodyPost_ret (v := .tuple #[.agg #[.int .i64 1, .int .i64 m], .bool (decide (0 < (m : Int)))]) (by simp [results, Tryz.results13, go_sem]) rfl (itemPost_of (unhide HI) ?_)
        repeat (first | exact Below.refl _ _ | apply Below.setCell | apply Below.alloc | simp)
      · have hk0' : ((k : Int) == 0) = false := by simp [hk0]
        by_cases hke : k + 1 = s.size
        · have HI := hide (unhide C1 hk0 hke)
          have hke' : ((k : Int) + 1 == (s.size : Int)) = true := by simp; omega
          clear hk0 hke C0 C1 C2
          go_wp2_with fail
          refine (unhide P1 _).mono ?_
          rintro e w1 ⟨rfl, rfl⟩
          go_wp2_with fail
          refine (unhide P2 _).mono ?_
          rintro e w2 ⟨rfl, rfl⟩
          go_wp2_with fail
          refine bodyPost_ret (v := .tuple #[.agg #[.int .i64 n, .int .i64 0], .bool (decide (0 < (n : Int)))]) (by simp [results, Tryz.results13, go_sem]) rfl (itemPost_of (unhide HI) ?_)
          repeat (first | exact Below.refl _ _ | apply Below.setCell | apply Below.alloc | simp)
        · have HI := hide (unhide C2 hk0 hke)
          have hke' : ((k : Int) + 1 == (s.size : Int)) = false := by simp; omega
          clear hk0 hke C0 C1 C2
          by_cases hn0 : 0 < (n : Int)
          all_goals
            go_wp2_with fail
            refine (unhide P1 _).mono ?_
            rintro e w1 ⟨rfl, rfl⟩
            go_wp2_with fail
            refine (unhide P2 _).mono ?_
            rintro e w2 ⟨rfl, rfl⟩
            go_wp2_with fail
            refine bodyPost_ret (v := .tuple #[.agg #[.int .i64 n, .int .i64 m], .bool (decide (0 < (n : Int)) && decide ((n : Int) ≤ (m : Int)))]) (by simp [results, Tryz.results13, go_sem]; omega) rfl (itemPost_of (unhide HI) ?_)
            repeat (first | exact Below.refl _ _ | apply Below.setCell | apply Below.alloc | simp)
theorem ritem_any (s : ByteArray) (w : World) (hs : s.size ≤ 4611686018427387904) : Calls Tryz.prog 13 #[.string s] w (ItemPost w (bs s)) := by
  rcases cut_at s with ⟨h1, h2⟩ | ⟨st, h1, h2, h3, h4⟩
  · exact ritem_none s w hs h1 h2
  · exact ritem_some s st w hs h1 h2 h3 h4
end Go.Proofs.YtijoemamnkhhnaaGreatDoor.Ls
