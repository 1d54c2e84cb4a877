/- PathsParts walked. -/
import Derived.Test.YthmoinagfooncaaDoorPtLives
import Derived.Test.YthmoinagfooncaaDoorPtRStr
namespace Go.Proofs.YthmoinagfooncaaDoor.Pt
open Go.RowKit Go.Proofs.YthmoinagfooncaaDoor.Cu Go.Proofs.YthmoinagfooncaaDoor.Tr Go.Proofs.YthmoinagfooncaaDoor.Pm

set_option maxRecDepth 100000 in
set_option maxHeartbeats 2000000 in
theorem parts_law (s t : ByteArray) (w : World) (hs : s.size ≤ 140737488355328) (ht : t.size ≤ 140737488355328) :
    Calls Tryd.prog 3 #[.string s, .string t] w fun e w' => e = .returned (.bool true) ∧ Below w.heap.size w w' := by
  have HL := hide (fun W => lives_any W)
  by_cases h0 : 50000 < s.size + t.size
  · have h0' : (50000 : Int) < (s.size : Int) + (t.size : Int) := by omega
    go_enter Tryd.func3, Tryd.ntmps3
    go_wp2_with fail
    refine (unhide HL _).mono ?_
    rintro e w1 ⟨rfl, b1⟩
    have HB := hide b1
    clear b1
    go_wp2_with fail
    go_ret
    exact ⟨rfl, unhide HB⟩
  have h0' : ¬ (50000 : Int) < (s.size : Int) + (t.size : Int) := by omega
  have A1 : Hid (∀ W, Calls Tryd.prog 8 #[.string s] W fun e w' => e = .returned (.string (tx (baseB (bs s)))) ∧ w' = W) := fun W => base_any s W (by omega)
  have A2 : Hid (∀ W, Calls Tryd.prog 9 #[.string s] W fun e w' => e = .returned (.string (tx (baseB (bs s)))) ∧ w' = W) := fun W => rbase_any s W (by omega)
  have A3 : Hid (∀ W, Calls Tryd.prog 10 #[.string s] W fun e w' => e = .returned (.string (tx (dirB (bs s)))) ∧ w' = W) := fun W => dir_any s W (by omega)
  have A4 : Hid (∀ W, Calls Tryd.prog 11 #[.string s] W fun e w' => e = .returned (.string (tx (dirB (bs s)))) ∧ w' = W) := fun W => rdir_any s W (by omega)
  have A5 : Hid (∀ W, Calls Tryd.prog 12 #[.string s, .string t] W fun e w' => e = .returned (.string (tx (joinB (bs s) (bs t)))) ∧ w' = W) := fun W => join_any s t W (by omega) (by omega)
  have A6 : Hid (∀ W, Calls Tryd.prog 13 #[.string s, .string t] W fun e w' => e = .returned (.string (tx (joinB (bs s) (bs t)))) ∧ w' = W) := fun W => rjoin_any s t W (by omega) (by omega)
  generalize tx (baseB (bs s)) = tb at *
  generalize tx (dirB (bs s)) = td at *
  generalize tx (joinB (bs s) (bs t)) = tj at *
  have e1 : (tb.toList == tb.toList) = true := by simp
  have e2 : (td.toList == td.toList) = true := by simp
  have e3 : (tj.toList == tj.toList) = true := by simp
  go_enter Tryd.func3, Tryd.ntmps3
  go_wp2_with (first | (go_at_call 8; refine (unhide A1 _).mono ?_; rintro r x7 ⟨rfl, hw⟩; rw [hw]; clear hw x7) | (go_at_call 9; refine (unhide A2 _).mono ?_; rintro r x7 ⟨rfl, hw⟩; rw [hw]; clear hw x7) | (go_at_call 10; refine (unhide A3 _).mono ?_; rintro r x7 ⟨rfl, hw⟩; rw [hw]; clear hw x7) | (go_at_call 11; refine (unhide A4 _).mono ?_; rintro r x7 ⟨rfl, hw⟩; rw [hw]; clear hw x7) | (go_at_call 12; refine (unhide A5 _).mono ?_; rintro r x7 ⟨rfl, hw⟩; rw [hw]; clear hw x7) | (go_at_call 13; refine (unhide A6 _).mono ?_; rintro r x7 ⟨rfl, hw⟩; rw [hw]; clear hw x7))
  refine (unhide HL _).mono ?_
  rintro e w1 ⟨rfl, b1⟩
  have HB := hide b1
  clear b1
  go_wp2_with fail
  go_ret
  exact ⟨rfl, unhide HB⟩
end Go.Proofs.YthmoinagfooncaaDoor.Pt
