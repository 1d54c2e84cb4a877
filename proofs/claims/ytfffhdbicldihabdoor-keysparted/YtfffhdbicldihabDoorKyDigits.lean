/- What digits answers: a number's digits. -/
import Derived.Test.YtfffhdbicldihabDoorKyTold
import Derived.Test.YtfffhdbicldihabDoorKyRefJoin
import Derived.Test.YtfffhdbicldihabDoorKyBase
import Derived.Deep.DeepCutAuto
import Derived.Deep.CutBlock
namespace Go.Proofs.YtfffhdbicldihabDoor.Ky
open Go.RowKit Go.Shelf

attribute [local go_sem] Oper.semAt_some

theorem dec_short (k : Nat) : ∀ n, n < 10 ^ (k + 1) → (dec n).length ≤ k + 1 := by
  induction k with
  | zero => intro n h; rw [dec_small (by omega)]; simp
  | succ k ih =>
    intro n h
    by_cases h1 : n < 10
    · rw [dec_small h1]; simp
    · rw [dec_great h1, List.length_append]
      have := ih (n / 10) (by rw [Nat.pow_succ] at h; omega)
      simp; omega

/-- one digit cut out of all ten -/
theorem slice_dig {k : IntKind} (n : Nat) (x : Int) (hx : x = ((n % 10 : Nat) : Int)) (W : World) :
    Sem.run Tryd.prog (Instr.slice 9 (.string { data := #[48, 49, 50, 51, 52, 53, 54, 55, 56, 57] }) (some (.int k x)) (some (.int k (x + 1))) none) W = .ok (.string (Ln.bt [dig n])) W := by
  rw [run_slice_string W 9 { data := #[48, 49, 50, 51, 52, 53, 54, 55, 56, 57] } k k x (x + 1) Tryd.underlying9 (by omega) (by omega) (by show x + 1 ≤ 10; omega)]
  have h : n % 10 < 10 := Nat.mod_lt _ (by decide)
  unfold dig
  generalize n % 10 = r at *
  subst hx
  congr 2
  have : r = 0 ∨ r = 1 ∨ r = 2 ∨ r = 3 ∨ r = 4 ∨ r = 5 ∨ r = 6 ∨ r = 7 ∨ r = 8 ∨ r = 9 := by omega
  rcases this with rfl | rfl | rfl | rfl | rfl | rfl | rfl | rfl | rfl | rfl <;> rfl
theorem dec_step (k : Nat) (X : Bs) : dec (k / 10) ++ X = (if k / 10 < 10 then [] else dec (k / 10 / 10)) ++ ([dig (k / 10)] ++ X) := by
  by_cases h1 : k / 10 < 10
  · rw [if_pos h1, dec_small h1]; rfl
  · rw [if_neg h1, dec_great h1]; simp

set_option maxRecDepth 100000 in
set_option maxHeartbeats 400000 in
theorem digits_any (n : Nat) (w : World) (hn : n < 18446744073709551616) :
    Calls Tryd.prog 6 #[.int .u64 (n : Int)] w fun e w' => e = .returned (.string (Ln.bt (dec n))) ∧ w' = w := by
  have h20 : (dec n).length ≤ 20 := dec_short 19 n (by omega)
  obtain ⟨D, hD⟩ : ∃ D, D = Ln.bt [dig n] := ⟨_, rfl⟩
  have hsl : ∀ W, Sem.run Tryd.prog (Instr.slice 9 (.string { data := #[48, 49, 50, 51, 52, 53, 54, 55, 56, 57] }) (some (.int .u64 ((n : Int) % 10))) (some (.int .u64 ((n : Int) % 10 + 1))) none) W = .ok (.string D) W := fun W => by rw [hD]; exact slice_dig n _ (by omega) W
  have H0 : Hid (dec n = (if n < 10 then [] else dec (n / 10)) ++ D.data.toList) := by
    show _ = _
    have e : D.data.toList = [dig n] := by rw [hD]; rfl
    rw [e]
    by_cases h : n < 10
    · rw [if_pos h, dec_small h]; rfl
    · rw [if_neg h, dec_great h]
  have hDs : D.size ≤ 20 := by rw [hD]; exact Nat.le_of_lt (by decide : 1 < 20)
  clear hD
  go_enter Tryd.func6, Tryd.ntmps6
  go_wp2_with fail
  clear hsl
  go_loopg [0, 3] n (fun g v0 v3 wr => w = wr ∧ ∃ (k : Nat) (X : ByteArray), v0 = .int .u64 (k : Int) ∧ k = g ∧ k ≤ n ∧ v3 = .string X ∧ X.size ≤ 20 ∧ Hid (dec n = (if k < 10 then [] else dec (k / 10)) ++ X.data.toList))
  case atStart => exact ⟨rfl, n, D, rfl, rfl, Nat.le_refl _, rfl, hDs, H0⟩
  case round =>
    obtain ⟨rfl, k, X, rfl, rfl, hk, rfl, hX, hi⟩ := hrel
    clear H0
    by_cases h10 : k < 10
    · have h10' : ¬ (10 : Int) ≤ (k : Int) := by omega
      have hR : Hid (Ln.bt (dec n) = X) := by show _ = _; rw [unhide hi, if_pos h10]; rfl
      clear hi
      go_wp2_with fail
      go_ret
      exact ⟨by rw [unhide hR]; rfl, rfl⟩
    · have h10' : (10 : Int) ≤ (k : Int) := by omega
      obtain ⟨q, hq⟩ : ∃ q : Nat, (k : Int) / 10 = (q : Int) := ⟨k / 10, by omega⟩
      have hq2 : q = k / 10 := by omega
      obtain ⟨E, hE⟩ : ∃ E, E = Ln.bt [dig q] := ⟨_, rfl⟩
      have hsl : ∀ W, Sem.run Tryd.prog (Instr.slice 9 (.string { data := #[48, 49, 50, 51, 52, 53, 54, 55, 56, 57] }) (some (.int .u64 ((q : Int) % 10))) (some (.int .u64 ((q : Int) % 10 + 1))) none) W = .ok (.string E) W := fun W => by rw [hE]; exact slice_dig q _ (by omega) W
      have hi2 : Hid (dec n = (if q < 10 then [] else dec (q / 10)) ++ (E ++ X).data.toList) := by
        show _ = _
        rw [unhide hi, if_neg h10, hq2, dec_step k _, hE, hq2]
        congr 1
      have hEs : E.size = 1 := by rw [hE]; rfl
      have hX2 : (E ++ X).size ≤ 20 := by
        have h1 := congrArg List.length (unhide hi2)
        rw [List.length_append, show (E ++ X).data.toList.length = (E ++ X).size from rfl] at h1
        omega
      have hqk : q < k := by omega
      clear hq2 hE hi h10
      go_wp2_with fail
      go_roundg q
      case measure => omega
      case rel => exact ⟨rfl, q, E ++ X, rfl, rfl, by omega, rfl, hX2, hi2⟩
end Go.Proofs.YtfffhdbicldihabDoor.Ky
