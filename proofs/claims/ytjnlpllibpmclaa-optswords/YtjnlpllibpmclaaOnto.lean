/- An append onto a row of the call's own; what Beyond answers of two sizes; what TextsSize answers. -/
import Derived.Test.YtjnlpllibpmclaaAlive
namespace Go.Proofs.Ytjnlpllibpmclaa.Pa
open Go.RowKit

/-- 'append(v, xs...)', v the call's own, xs nil or not -/
theorem wpList_append_onto {P : Program} {w : World} {ops : Array Oper} {rest : List Oper} {o : Oper} {a : Act} {Q : Exit → Act → World → Prop} (hgd : o.guard = none) (s x : Operand) (t : TypeId)
    (ho : o.op = .call { callee := .builtin .append, args := #[s, x], argTypes := #[t, t] })
    (base : Nat) (e : TypeId) (i : TypeInfo) (z : Value) (size bytes : Nat) (ht : P.underlying t = some (.slice e)) (hi : P.info? e = some i) (hz : i.zero = some z)
    (hsize : i.size = size) (hby : i.bytes = bytes) (hzs : z.cells.size = size) (hsz : 0 < size)
    (v : Value) (n : Nat) (xs : List Value) (hs : a.eval s = v) (hown : w.ownsRow base e size v n xs)
    (ao : Option Addr) (m c : Nat) (news : List Value) (hx : a.eval x = .slice ao m c) (hnone : ao = none → m = 0 ∧ c = 0) (hl : news.length = m * size)
    (hnews : ∀ ad, ao = some ad → ∀ j u, news[j]? = some u → w.cell? (ad.add j) = some u) (h1 : ∀ u ∈ news, u.oneCell' = true)
    (h63 : n + m ≤ maxLen) (hbytes : (n + m) * bytes ≤ 140737488355328) (hbase : base ≤ w.heap.size)
    (h : ∀ v' w', w'.ownsRow base e size v' (n + m) (xs ++ news) → w.grownBy w' v.ownBlock → wpList P ops Q rest (a.put o.dst v') w') : wpList P ops Q (o :: rest) a w := by
  cases ao with
  | none =>
    obtain ⟨rfl, rfl⟩ := hnone rfl
    have : news = [] := List.eq_nil_of_length_eq_zero (by omega)
    subst this
    exact wpList_append_own_none hgd s x t ho base e i size ht hi v n xs hs hown hx (h _ _ (by simpa using hown) (World.grownBy.refl _ _))
  | some ad =>
    refine wpList_append_own w hgd s x t ho base e i z size bytes ht hi hz hsize hby hzs hsz v n xs hs hown ad m c news hx hl (hnews ad rfl) h1 h63 hbytes hbase ?_
    intro v' w' hown hgrow _
    exact h v' w' hown hgrow

theorem ret_bool {b : Bool} (h : b = true) : Ending.returned (.bool b) = .returned (.bool true) := by rw [h]

set_option maxHeartbeats 400000 in
theorem beyond_two (n m : Int) (b : Nat) (w : World) (hc : w.cell? ⟨b, 0, none⟩ = some (.int .i64 n)) (hd : w.cell? ⟨b, 1, none⟩ = some (.int .i64 m)) (h0 : 0 ≤ n) (h1 : n ≤ 4611686018428436480) (h2 : 0 ≤ m) (h3 : m ≤ 4611686018428436480) :
    Calls Try.prog 10 #[.slice (some ⟨b, 0, none⟩) 2 2] w fun e w' => e = .returned (.bool (decide (1048576 < n + m))) ∧ w' = w := by
  by_cases hn : 1048576 < n
  · go_enter Try.func10, Try.ntmps10
    go_wp2
    refine wp_loop_rounds 3 ?_
    rw [rounds_succ]
    go_wp2
    go_ret
    exact ⟨by simp; omega, rfl⟩
  · by_cases hm : 1048576 < n + m
    · go_enter Try.func10, Try.ntmps10
      go_wp2
      refine wp_loop_rounds 3 ?_
      rw [rounds_succ]
      go_wp2
      rw [rounds_succ]
      go_wp2
      go_ret
      exact ⟨by simp; omega, rfl⟩
    · go_enter Try.func10, Try.ntmps10
      go_wp2
      refine wp_loop_rounds 3 ?_
      rw [rounds_succ]
      go_wp2
      rw [rounds_succ]
      go_wp2
      rw [rounds_succ]
      go_wp2
      go_ret
      exact ⟨by simp; omega, rfl⟩


theorem tot_append (a b : List ByteArray) : tot (a ++ b) = tot a + tot b := by
  induction a with
  | nil => simp [tot]
  | cons s l ih => simp only [List.cons_append, tot, ih]; omega
theorem tot_take_succ (ss : List ByteArray) (k : Nat) (h : k < ss.length) : tot (ss.take (k + 1)) = tot (ss.take k) + (ss.getD k ByteArray.empty).size := by
  rw [List.take_succ_eq_append_getElem h, tot_append]
  simp [tot, List.getD, List.getElem?_eq_getElem h]

set_option maxHeartbeats 400000 in
theorem textsSize_go (b off n cap : Nat) (ss : List ByteArray) (w : World) (hl : ss.length = n) (hn : n ≤ 4611686018427387904) (hss : ∀ i, i < n → (ss.getD i ByteArray.empty).size ≤ 4611686018427387904)
    (hc : ∀ i, i < n → w.cell? ⟨b, off + i, none⟩ = some (.string (ss.getD i ByteArray.empty))) :
    Calls Try.prog 11 #[.slice (some ⟨b, off, none⟩) n cap] w fun e w' => (∃ v : Int, e = .returned (.int .i64 v) ∧ 0 ≤ v ∧ v ≤ 4611686018428436480 ∧ (v ≤ 1048576 → ((n + tot ss : Nat) : Int) ≤ v)) ∧ w' = w := by
  have HC := hide hc
  have HS := hide hss
  have HL := hide hl
  clear hc hss hl
  go_enter Try.func11, Try.ntmps11
  go_wp2
  go_loop [3, 4] (fun s3 i => ∃ (k : Nat) (v : Int), k ≤ n ∧ i = .int .i64 k ∧ s3 = .int .i64 v ∧ 0 ≤ v ∧ v ≤ 4611686018428436480 ∧ Hid (v = ((n + tot (ss.take k) : Nat) : Int))) (fun _ i => n - (intOf i).toNat)
  case atStart => exact ⟨0, n, Nat.zero_le _, rfl, rfl, by omega, by omega, by simp [Hid, tot]⟩
  case round =>
    obtain ⟨k, v, hk, rfl, rfl, hv1, hv2, hv⟩ := hrel
    by_cases hlt : k < n
    · by_cases hm : v ≤ 1048576
      · have hcx := (unhide HC) k hlt
        have hs := (unhide HS) k hlt
        obtain ⟨x, hx⟩ : ∃ x, x = ss.getD k ByteArray.empty := ⟨_, rfl⟩
        have hvn : Hid (v + x.size = ((n + tot (ss.take (k + 1)) : Nat) : Int)) := by
          show _ = _
          rw [tot_take_succ ss k (by rw [unhide HL]; exact hlt), hx]
          have := unhide hv
          omega
        rw [← hx] at hcx hs
        clear hx
        go_wp2
        go_round
        case rel => exact ⟨k + 1, v + x.size, by omega, by go_num, by go_num, by omega, by omega, hvn⟩
        case measure => simp [intOf]; omega
      · go_wp2
        go_ret
        exact ⟨⟨v, rfl, by omega, by omega, fun h => by omega⟩, rfl⟩
    · have hvv : v = ((n + tot ss : Nat) : Int) := by
        have := unhide hv
        rw [List.take_of_length_le (by rw [unhide HL]; omega)] at this
        exact this
      have HV := hide hvv
      clear hvv hv
      go_wp2
      go_ret
      exact ⟨⟨v, rfl, by omega, by omega, fun _ => by rw [unhide HV]; exact Int.le_refl _⟩, rfl⟩

set_option maxHeartbeats 400000 in
theorem textsSize_none (a : Option Addr) (cap : Nat) (w : World) :
    Calls Try.prog 11 #[.slice a 0 cap] w fun e w' => e = .returned (.int .i64 0) ∧ w' = w := by
  go_enter Try.func11, Try.ntmps11
  go_wp2
  refine wp_loop_rounds 1 ?_
  rw [rounds_succ]
  go_wp2
  go_ret
  exact ⟨rfl, rfl⟩

theorem textsSize_any (a : Option Addr) (n cap c' : Nat) (ss : List ByteArray) (w : World) (hT : Tx w a n c' ss) (hn : n ≤ 4611686018427387904) (hss : ∀ s ∈ ss, s.size ≤ 4611686018427387904) :
    Calls Try.prog 11 #[.slice a n cap] w fun e w' => (∃ v : Int, e = .returned (.int .i64 v) ∧ 0 ≤ v ∧ v ≤ 4611686018428436480 ∧ (v ≤ 1048576 → ((n + tot ss : Nat) : Int) ≤ v)) ∧ w' = w := by
  rcases hT.cells with rfl | ⟨b, off, rfl, _, hc⟩
  · have : ss = [] := List.eq_nil_of_length_eq_zero hT.len
    subst this
    exact (textsSize_none a cap w).mono fun e w' ⟨h1, h2⟩ => ⟨⟨0, h1, by omega, by omega, fun _ => by simp [tot]⟩, h2⟩
  · refine textsSize_go b off n cap ss w hT.len hn (fun i hi => ?_) hc
    have hi' : i < ss.length := by rw [hT.len]; exact hi
    have : ss.getD i ByteArray.empty = ss[i] := by simp [List.getD, List.getElem?_eq_getElem hi']
    rw [this]
    exact hss _ (List.getElem_mem hi')
end Go.Proofs.Ytjnlpllibpmclaa.Pa
