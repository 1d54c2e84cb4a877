/- Rows in order: what inOrder answers. -/
import Derived.Test.YtjkajhnnoecjbaaDoorVwRows
import Derived.Deep.RegionHeld3
set_option linter.unusedVariables false
namespace Go.Proofs.YtjkajhnnoecjbaaDoor.Vw
open Go.RowKit Go.Shelf Cu
open Pa (Tx tot)

attribute [local go_sem] Oper.semAt_some

theorem add_at' (b off j : Nat) : (⟨b, off, none⟩ : Addr).add j = ⟨b, off + j, none⟩ := by unfold Addr.add; split <;> simp_all
/-- rows that are read -/
def Rr (w : World) (a : Option Addr) (n : Nat) (rs : List Rw) : Prop :=
  rs.length = n ∧ (n = 0 ∨ ∃ b, a = some ⟨b, 0, none⟩ ∧ b < w.heap.size ∧ ∀ i (h : i < rs.length), w.cell? ⟨b, i * 2, none⟩ = some (.string (bt rs[i].1)) ∧ w.cell? ⟨b, i * 2 + 1, none⟩ = some (.string (bt rs[i].2)))
theorem Rr.below {w w' : World} {a : Option Addr} {n : Nat} {rs : List Rw} (h : Rr w a n rs) (hb : Below w.heap.size w w') : Rr w' a n rs := by
  refine ⟨h.1, ?_⟩
  rcases h.2 with h | ⟨b, e, hlt, hc⟩
  · exact .inl h
  · exact .inr ⟨b, e, Nat.lt_of_lt_of_le hlt hb.size, fun i hi => ⟨(hb.cell hlt).trans (hc i hi).1, (hb.cell hlt).trans (hc i hi).2⟩⟩
theorem rr_of_row {w : World} {B : Nat} {v : Value} {rs : List Rw} (h : RowR B v rs w) : ∃ a c, v = .slice a rs.length c ∧ Rr w a rs.length rs := by
  rcases h.2 with ⟨hv, h0⟩ | ⟨g, cap, cur, rfl, _⟩
  · exact ⟨none, 0, by rw [hv, h0], rfl, .inl h0⟩
  · refine ⟨_, _, rfl, rfl, .inr ⟨g, rfl, (h.lt g rfl).2, fun i hi => ?_⟩⟩
    obtain ⟨g1, g2⟩ := rwc_get rs i hi
    exact ⟨(h.cellAt (i * 2) (by omega)).trans g1, (h.cellAt (i * 2 + 1) (by omega)).trans g2⟩

theorem cmp_lt : ∀ a b : Bs, Lib.compareBytes a b < 0 ↔ a < b
  | [], [] => by simp [Lib.compareBytes]
  | [], _ :: _ => by simp [Lib.compareBytes]
  | _ :: _, [] => by simp [Lib.compareBytes]
  | a :: s, b :: t => by
    rw [Lib.compareBytes, List.cons_lt_cons_iff]
    by_cases h1 : a < b
    · simp [h1]
    · by_cases h2 : b < a
      · rw [if_neg h1, if_pos h2]
        refine ⟨fun h => by omega, fun h => ?_⟩
        rcases h with h | ⟨h, _⟩
        · exact absurd h h1
        · subst h; exact absurd h2 h1
      · rw [if_neg h1, if_neg h2, cmp_lt s t]
        have he : a = b := by
          rw [UInt8.lt_iff_toNat_lt] at h1 h2
          exact UInt8.toNat_inj.1 (by omega)
        subst he
        simp [h1]
theorem sorted_iff : ∀ rs : List Rw, sortedP rs = true ↔ ∀ i (h : i + 1 < rs.length), ¬ (rs[i + 1]).1 < (rs[i]'(by omega)).1
  | [] => by simp [sortedP]
  | [x] => by simp [sortedP]
  | x :: y :: r => by
    rw [sortedP, Bool.and_eq_true, decide_eq_true_eq, sorted_iff (y :: r)]
    constructor
    · rintro ⟨h1, h2⟩ i h
      cases i with
      | zero => exact h1
      | succ i => exact h2 i (by simpa using h)
    · intro h
      exact ⟨h 0 (by simp), fun i hi => h (i + 1) (by simpa using hi)⟩

set_option maxHeartbeats 400000 in
theorem byKey_any (x y : Rw) (w : World) :
    Calls Tryd.prog 110 #[.agg #[.string (bt x.1), .string (bt x.2)], .agg #[.string (bt y.1), .string (bt y.2)]] w fun e w' => e = .returned (.int .i64 (Lib.compareBytes x.1 y.1)) ∧ Below w.heap.size w w' := by
  have H := hide (fun W => Tryd.strings_Compare (bt x.1) (bt y.1) W)
  go_enter Tryd.func110, Tryd.ntmps110
  go_wp2_with fail
  refine (unhide H _).mono ?_
  rintro e w' ⟨rfl, rfl⟩
  go_wp2_with fail
  go_ret
  exact ⟨rfl, ((Below.refl _ _).alloc (Nat.le_refl _) _).alloc (by simp) _⟩

theorem idx_row (b n cap j : Nat) (i : Int) (hi : i = (j : Int)) (hj : j < n) (W : World) : (Instr.indexAt 68 (.slice (some ⟨b, 0, none⟩) n cap) (.int .i64 i)).run Tryd.prog W = .ok (.pointer (some ⟨b, j * 2, none⟩)) W := by
  have hel : Tryd.prog.elem 68 = 76 := by kernel_rfl
  subst hi
  rw [run_indexAt_slice (h := by kernel_rfl), if_pos ⟨by omega, by omega⟩, hel]
  simp [go_sem, Result.andThen, add_at']

set_option maxRecDepth 100000 in
set_option maxHeartbeats 1000000 in
theorem isSorted_any (a : Option Addr) (n cap : Nat) (rs : List Rw) (w : World) (hR : Rr w a n rs) (hn : n ≤ 1048577) :
    Calls Tryd.prog 109 #[.slice a n cap, .func (.func 110) #[] #[]] w fun e w' => e = .returned (.bool (sortedP rs)) ∧ Below w.heap.size w w' := by
  have HR := hide hR
  have hrl : rs.length = n := hR.1
  have HK := hide (fun x y W => byKey_any x y W)
  clear hR
  by_cases hn0 : n = 0
  · subst hn0
    have hrs : rs = [] := List.eq_nil_of_length_eq_zero hrl
    subst hrs
    go_enter Tryd.func109, Tryd.ntmps109
    go_wp2_with fail
    refine wp_loop_rounds 1 ?_
    rw [rounds_succ]
    go_wp2_with fail
    go_ret
    exact ⟨rfl, Below.refl _ _⟩
  go_enter Tryd.func109, Tryd.ntmps109
  go_wp2_with fail
  go_loopw [5] (fun v wr => ∃ i : Nat, v = .int .i64 i ∧ i < n ∧ Hid (∀ j (h : j + 1 < rs.length), i ≤ j → ¬ (rs[j + 1]).1 < (rs[j]'(by omega)).1) ∧ Hid (Below w.heap.size w wr)) (fun v _ => (intOf v).toNat)
  case atStart => exact ⟨n - 1, by go_num, by omega, fun j h h2 => by omega, Below.refl _ _⟩
  case round =>
    obtain ⟨i, rfl, hin, hinv, hB⟩ := hrel
    by_cases hi : 0 < i
    · have hi' : (0 : Int) < (i : Int) := by omega
      obtain ⟨j, rfl⟩ : ∃ j, i = j + 1 := ⟨i - 1, by omega⟩
      rcases (unhide HR).2 with h0 | ⟨b, rfl, hb, hc⟩
      · omega
      have hj1 : j + 1 < rs.length := by omega
      have hj0 : j < rs.length := by omega
      have q1 := ((unhide hB).cell (p := ⟨b, (j + 1) * 2, none⟩) hb).trans (hc (j + 1) hj1).1
      have q2 := ((unhide hB).cell (p := ⟨b, (j + 1) * 2 + 1, none⟩) hb).trans (hc (j + 1) hj1).2
      have q3 := ((unhide hB).cell (p := ⟨b, j * 2, none⟩) hb).trans (hc j hj0).1
      have q4 := ((unhide hB).cell (p := ⟨b, j * 2 + 1, none⟩) hb).trans (hc j hj0).2
      have hK := hide (unhide HK rs[j + 1] rs[j])
      have hcast : ((j + 1 : Nat) : Int) = (j : Int) + 1 := by omega
      rw [hcast] at hi'
      rw [hcast]
      have hw1 : IntKind.i64.wrap ((j : Int) + 1 - 1) = (j : Int) := by simp [IntKind.wrap, IntKind.signed, IntKind.bits]; omega
      have hw2 : IntKind.i64.wrap (j : Int) = (j : Int) := by simp [IntKind.wrap, IntKind.signed, IntKind.bits]; omega
      have hw3 : wrap64 (j : Int) = (j : Int) := by unfold wrap64; omega
      have hw4 : wrap64 ((j : Int) + 1 - 1) = (j : Int) := by unfold wrap64; omega
      have hjn1 : (j : Int) + 1 < (n : Int) := by omega
      have hj01 : (0 : Int) ≤ (j : Int) + 1 := by omega
      clear hcast
      have hcl := cmp_lt rs[j + 1].1 rs[j].1
      have hnew : ¬ rs[j + 1].1 < rs[j].1 → Hid (∀ j' (h : j' + 1 < rs.length), j ≤ j' → ¬ (rs[j' + 1]).1 < (rs[j']'(by omega)).1) := fun h j' h1 h2 => by
        by_cases e : j' = j
        · subst e; exact h
        · exact unhide hinv j' h1 (by omega)
      have hbad : rs[j + 1].1 < rs[j].1 → Hid (sortedP rs = false) := fun h => by
        show _ = _
        cases hs : sortedP rs
        · rfl
        · exact absurd h ((sorted_iff rs).1 hs j hj1)
      generalize Lib.compareBytes rs[j + 1].1 rs[j].1 = cv at *
      generalize rs[j + 1] = x at *
      generalize rs[j] = y at *
      clear hinv hc HK
      have hnew := hide hnew
      have hbad := hide hbad

      have hjn : (j : Int) < (n : Int) := by omega
      have hj00 : (0 : Int) ≤ (j : Int) := by omega
      obtain ⟨S, hS⟩ : ∃ S : World → Prop, S = fun w' => w'.cell? ⟨b, (j + 1) * 2, none⟩ = some (.string (bt x.1)) ∧ w'.cell? ⟨b, (j + 1) * 2 + 1, none⟩ = some (.string (bt x.2)) ∧ w'.cell? ⟨b, j * 2, none⟩ = some (.string (bt y.1)) ∧ w'.cell? ⟨b, j * 2 + 1, none⟩ = some (.string (bt y.2)) ∧ Below w.heap.size w w' := ⟨_, rfl⟩
      have K1 : Hid (∀ W', (W'.cell? ⟨b, (j + 1) * 2, none⟩ = some (.string (bt x.1)) ∧ W'.cell? ⟨b, (j + 1) * 2 + 1, none⟩ = some (.string (bt x.2)) ∧ W'.cell? ⟨b, j * 2, none⟩ = some (.string (bt y.1)) ∧ W'.cell? ⟨b, j * 2 + 1, none⟩ = some (.string (bt y.2)) ∧ Below w.heap.size w W') → Calls Tryd.prog 110 #[.agg #[.string (bt x.1), .string (bt x.2)], .agg #[.string (bt y.1), .string (bt y.2)]] W' fun e w' => e = .returned (.int .i64 cv) ∧ (w'.cell? ⟨b, (j + 1) * 2, none⟩ = some (.string (bt x.1)) ∧ w'.cell? ⟨b, (j + 1) * 2 + 1, none⟩ = some (.string (bt x.2)) ∧ w'.cell? ⟨b, j * 2, none⟩ = some (.string (bt y.1)) ∧ w'.cell? ⟨b, j * 2 + 1, none⟩ = some (.string (bt y.2)) ∧ Below w.heap.size w w')) := fun W' h =>
        (unhide hK W').mono fun e w' h2 => by
          have hbl : b < W'.heap.size := Nat.lt_of_lt_of_le hb h.2.2.2.2.size
          exact ⟨h2.1, (h2.2.cell (p := ⟨b, _, none⟩) hbl).trans h.1, (h2.2.cell (p := ⟨b, _, none⟩) hbl).trans h.2.1, (h2.2.cell (p := ⟨b, _, none⟩) hbl).trans h.2.2.1, (h2.2.cell (p := ⟨b, _, none⟩) hbl).trans h.2.2.2.1, h.2.2.2.2.trans (h2.2.mono h.2.2.2.2.size)⟩
      have hBd : Below w.heap.size w wr.drew := (unhide hB).drew
      clear hS S hK
      by_cases hcv : cv < 0
      · have hsf := unhide hbad (hcl.1 hcv)
        clear hbad hnew hcl
        go_wp2_with fail
        go_region_held3 (fun w' => w'.cell? ⟨b, (j + 1) * 2, none⟩ = some (.string (bt x.1)) ∧ w'.cell? ⟨b, (j + 1) * 2 + 1, none⟩ = some (.string (bt x.2)) ∧ w'.cell? ⟨b, j * 2, none⟩ = some (.string (bt y.1)) ∧ w'.cell? ⟨b, j * 2 + 1, none⟩ = some (.string (bt y.2)) ∧ Below w.heap.size w w') (first | assumption | go_keep)
          (with_reducible refine (unhide K1 _ (by assumption)).mono ?_; rintro e w' ⟨rfl, hS1⟩)
        go_wp2_with fail
        go_ret
        exact ⟨by rw [unhide hsf]; rfl, hS1.2.2.2.2⟩
      · have hok := unhide hnew (fun h => hcv (hcl.2 h))
        clear hbad hnew hcl
        go_wp2_with fail
        go_region_held3 (fun w' => w'.cell? ⟨b, (j + 1) * 2, none⟩ = some (.string (bt x.1)) ∧ w'.cell? ⟨b, (j + 1) * 2 + 1, none⟩ = some (.string (bt x.2)) ∧ w'.cell? ⟨b, j * 2, none⟩ = some (.string (bt y.1)) ∧ w'.cell? ⟨b, j * 2 + 1, none⟩ = some (.string (bt y.2)) ∧ Below w.heap.size w w') (first | assumption | go_keep)
          (with_reducible refine (unhide K1 _ (by assumption)).mono ?_; rintro e w' ⟨rfl, hS1⟩)
        go_wp2_with fail
        go_roundw
        case rel => exact ⟨j, by go_num, by omega, hok, hS1.2.2.2.2⟩
        case measure => simp [intOf]
    · obtain rfl : i = 0 := by omega
      have hok : Hid (sortedP rs = true) := (sorted_iff rs).2 (fun j h => unhide hinv j h (Nat.zero_le _))
      clear hinv
      go_wp2_with fail
      go_ret
      exact ⟨by rw [unhide hok]; rfl, unhide hB⟩

set_option maxHeartbeats 400000 in
theorem inOrder_any (a : Option Addr) (n cap : Nat) (rs : List Rw) (w : World) (hR : Rr w a n rs) (hn : n ≤ 1048577) :
    Calls Tryd.prog 67 #[.slice a n cap] w fun e w' => e = .returned (.bool (sortedP rs)) ∧ Below w.heap.size w w' := by
  have hmf : ∀ (fn : Fn) (first cap : Array Value) (w : World), (Instr.makeFunc fn first cap).run Tryd.prog w = .ok (.func fn first cap) w := fun _ _ _ _ => rfl
  have H := hide (isSorted_any a n cap rs w hR hn)
  generalize sortedP rs = s at *
  go_enter Tryd.func67, Tryd.ntmps67
  go_wp2_with fail
  refine (unhide H).mono ?_
  rintro e w1 ⟨rfl, hb⟩
  clear H
  go_wp2_with fail
  go_ret
  exact ⟨rfl, hb⟩
end Go.Proofs.YtjkajhnnoecjbaaDoor.Vw
