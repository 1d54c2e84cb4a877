/- A teller's methods: length, data, text, numbers, call. -/
import Derived.Test.YtbofidpoajdcmaaGreatDoorCdTell
namespace Go.Proofs.YtbofidpoajdcmaaGreatDoor.Cd
open Go.RowKit Cu Tr

theorem off_new {w : World} {g : Nat} {o : Option Nat} {out : Bs} (h : Tl w g o out) (i : Nat) : Off (some ⟨w.heap.size, i, none⟩) g o := by
  intro ad e
  injection e with e
  subst e
  refine ⟨by have := h.lt; show w.heap.size ≠ g; omega, fun e => ?_⟩
  have := (h.at_lo _ e.symm).2
  simp at this
set_option maxHeartbeats 400000 in
set_option maxRecDepth 100000 in
theorem length_any (n : Nat) (g : Nat) (o : Option Nat) (out : Bs) (w : World) (hT : Tl w g o out) (hn : n ≤ 4611686018427387904) (hl : out.length ≤ 70368744177664) :
    Calls Tryz.prog 131 #[tv g, .int .i64 (n : Int)] w fun e w' => e = .returned (.tuple #[]) ∧ ∃ o', Tl w' g o' (out ++ lenB n) ∧ Tk w w' g o o' := by
  have HT := hide hT
  have HL := hide (lowest_any n 4 w (by omega))
  clear hT
  go_enter Tryz.func131, Tryz.ntmps131
  go_wp2_with fail
  refine (unhide HL).mono ?_
  rintro e w1 ⟨rfl, hB, hb⟩
  have h2 := hide (tell_any (some ⟨w.heap.size, 0, none⟩) 4 4 (lenB n) g o out w1 ((unhide HT).below hb) (by have := hB.by; rw [le_len] at this; exact this) (by omega))
  have HB := hide hb
  clear HL hB hb
  go_wp2_with fail
  refine (unhide h2).mono ?_
  rintro e w2 ⟨rfl, o', h3, h4⟩
  have H3 := hide h3
  have H4 := hide ((Tk.of_below (unhide HB)).trans h4)
  clear h2 h3 h4
  go_wp2_with fail
  go_end0
  exact ⟨rfl, o', unhide H3, unhide H4⟩
set_option maxHeartbeats 400000 in
set_option maxRecDepth 100000 in
theorem data_any (a : Option Addr) (n cap : Nat) (l : Bs) (g : Nat) (o : Option Nat) (out : Bs) (w : World) (hT : Tl w g o out) (hB : By w a n cap l) (hO : 0 < n → Off a g o) (hn : n ≤ 65536) (hl : out.length ≤ 35184372088832) :
    Calls Tryz.prog 97 #[tv g, .slice a n cap] w fun e w' => e = .returned (.tuple #[]) ∧ ∃ o', Tl w' g o' (out ++ txtB l) ∧ Tk w w' g o o' := by
  have h1 := hide (length_any n g o out w hT (by omega) (by omega))
  have HB := hide hB
  have HO := hide hO
  clear hT hB hO
  go_enter Tryz.func97, Tryz.ntmps97
  go_wp2_with fail
  refine (unhide h1).mono ?_
  rintro e w1 ⟨rfl, o1, h3, h4⟩
  have h2 := hide (tell_any a n cap l g o1 (out ++ lenB n) w1 h3 (By.told (unhide HB) (unhide HO) h4) (by rw [List.length_append, lenB_len]; omega))
  have H4 := hide h4
  clear h1 h3 h4
  go_wp2_with fail
  refine (unhide h2).mono ?_
  rintro e w2 ⟨rfl, o2, h5, h6⟩
  have e1 : out ++ lenB n ++ l = out ++ txtB l := by rw [txtB, (unhide HB).len, List.append_assoc]
  rw [e1] at h5
  have H5 := hide h5
  have H6 := hide ((unhide H4).trans h6)
  clear h2 h5 h6
  go_wp2_with fail
  go_end0
  exact ⟨rfl, o2, unhide H5, unhide H6⟩
end Go.Proofs.YtbofidpoajdcmaaGreatDoor.Cd
