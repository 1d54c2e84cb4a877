/- What Texts leaves: the Book holds one list of texts more. -/
import Derived.Test.YtpfdjnnnemkoiaaGreatDoorBookKeep
namespace Go.Proofs.YtpfdjnnnemkoiaaGreatDoor.Bk
open Go.RowKit

set_option maxHeartbeats 400000 in
theorem Texts_any (B P : Nat) (n k : Nat) (u : Value) (cur hc : List Value) (la : Option Addr) (ll lc : Nat) (w : World) (hB : Own w P cur) (h0 : cur[0]? = some (.int .i64 n)) (h3 : cur[3]? = some u) (hu : w.ownsRow B 52 3 u k hc)
    (hBs : B ≤ w.heap.size) (hn : n ≤ 1000000) (hk : k ≤ 1000000) :
    Calls Tryz.prog 11 #[.pointer (some ⟨P, 0, none⟩), .slice la ll lc] w fun e w' => e = .returned (.tuple #[]) ∧ ∃ u', Own w' P ((cur.set 0 (.int .i64 ((n + 1 : Nat) : Int))).set 3 u') ∧
      w'.ownsRow B 52 3 u' (k + 1) (hc ++ [.slice la ll lc, .slice none 0 0, .int .i64 ((n + 1 : Nat) : Int)]) ∧ Touch (fun b => b = P ∨ u.ownBlock = some b) w w' := by
  have HC := hide (keepText_any B P n k u cur hc la ll lc w hB h0 h3 hu hBs hn hk)
  clear hB h0 h3 hu
  go_enter Tryz.func11, Tryz.ntmps11
  go_wp2_with fail
  refine (unhide HC).mono ?_
  rintro e w' ⟨rfl, h⟩
  have H := hide h
  clear h
  go_wp2_with fail
  go_end0
  exact ⟨rfl, unhide H⟩
end Go.Proofs.YtpfdjnnnemkoiaaGreatDoor.Bk
