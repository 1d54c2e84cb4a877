/- What by and alive answer. -/
import Derived.Test.YtijknodbaddelabDoorMoParse
import Derived.Test.YtijknodbaddelabDoorMoApply
import Derived.Test.YtijknodbaddelabDoorMoOctal
namespace Go.Proofs.YtijknodbaddelabDoor.Mo
open Go.RowKit Go.Shelf

/-- what a text makes of a mode -/
def byP (s : Bs) (mode mask : Int) (dir : Bool) : Int := if parseE s = 0 then ((applyP (parseL s) (m9 mode) mask dir : Nat) : Int) else -1
theorem parseL_len (s : Bs) : (parseL s).length ≤ 8200 := by
  unfold parseL
  split
  · simp
  · rename_i h
    unfold parse
    cases readP s with
    | some m => simp [octL]
    | none =>
      simp only
      cases hc : clausesP (splitC s) with
      | none => simp
      | some l =>
        have h1 := clausesP_len hc
        have h2 := splitC_len s
        simp
        omega
set_option maxHeartbeats 400000 in
set_option maxRecDepth 100000 in
theorem by_any (s : ByteArray) (mode mask : Int) (dir : Bool) (w : World) (hs : s.size ≤ 4611686018427387904) :
    Calls Tryd.prog 12 #[.string s, .agg #[.int .i64 mode, .int .i64 mask, .bool dir]] w fun e w' => e = .returned (.int .i64 (byP (bs s) mode mask dir)) ∧ Below w.heap.size w w' := by
  obtain ⟨W0, HW0⟩ : ∃ W, Hid (W = w.alloc (.cells #[.int .i64 mode, .int .i64 mask, .bool dir] 24)) := ⟨_, rfl⟩
  have HB0 : Hid (Below w.heap.size w W0) := by rw [unhide HW0]; exact (Below.refl _ _).alloc (Nat.le_refl _) _
  have hz0 : w.heap.size < W0.heap.size := by rw [unhide HW0]; simp
  have d0 : W0.cell? ⟨w.heap.size, 0, none⟩ = some (.int .i64 mode) := by rw [unhide HW0]; simp
  have d1 : W0.cell? ⟨w.heap.size, 1, none⟩ = some (.int .i64 mask) := by rw [unhide HW0]; simp
  have d2 : W0.cell? ⟨w.heap.size, 2, none⟩ = some (.bool dir) := by rw [unhide HW0]; simp
  have hpl := parseL_len (bs s)
  go_enter Tryd.func12, Tryd.ntmps12
  go_wp2_with fail
  rw [← unhide HW0]
  clear HW0
  refine (parse_any s _ hs).mono ?_
  rintro e w1 ⟨v, rfl, hO1, hb1⟩
  have HB1 : Hid (Below w.heap.size w w1) := (unhide HB0).trans (hb1.mono (unhide HB0).size)
  have hz1 : w.heap.size < w1.heap.size := by have := hb1.size; omega
  have f0 := (hb1.cell (p := ⟨w.heap.size, 0, none⟩) hz0).trans d0
  have f1 := (hb1.cell (p := ⟨w.heap.size, 1, none⟩) hz0).trans d1
  have f2 := (hb1.cell (p := ⟨w.heap.size, 2, none⟩) hz0).trans d2
  obtain ⟨a, c, rfl, hC⟩ := cg_of_owns hO1
  have HAP := hide (apply_any a (parseL (bs s)).length c c (parseL (bs s)) mode mask dir w1 hC (by omega))
  have HBY : Hid (byP (bs s) mode mask dir = if parseE (bs s) = 0 then ((applyP (parseL (bs s)) (m9 mode) mask dir : Nat) : Int) else -1) := rfl
  generalize applyP (parseL (bs s)) (m9 mode) mask dir = A at *
  generalize (parseL (bs s)).length = n at *
  generalize parseE (bs s) = E at *
  clear hO1 hC hb1 HB0 d0 d1 d2
  by_cases hE : E = 0
  · rw [if_pos hE] at HBY
    subst hE
    go_wp2_with fail
    refine (unhide HAP).mono ?_
    rintro e w2 ⟨rfl, hb2⟩
    have HB2 : Hid (Below w.heap.size w w2) := (unhide HB1).trans (hb2.mono (unhide HB1).size)
    clear hb2 HAP
    go_wp2_with fail
    go_ret
    exact ⟨ret_i (unhide HBY).symm, unhide HB2⟩
  · rw [if_neg hE] at HBY
    have hE2 : (E != 0) = true := by simpa using hE
    clear hE
    go_wp2_with fail
    go_ret
    exact ⟨ret_i (unhide HBY).symm, unhide HB1⟩
theorem al1 : parseE [103, 61, 117, 114] = 5 := by decide +kernel
theorem al2 : byP [117, 43, 120] 420 0 false = 484 := by decide +kernel
theorem al3 : byP [103, 111, 61, 117] 416 0 false = 438 := by decide +kernel
theorem al4 : byP [97, 43, 88] 420 0 true = 493 := by decide +kernel
theorem al5 : byP [43, 119] 292 18 false = 420 := by decide +kernel
theorem al6 : byP [61] 511 18 false = 18 := by decide +kernel
theorem al7 : textP 1 416 = [45, 114, 119, 45, 114, 45, 45, 45, 45, 45] := by decide +kernel
theorem al8 : octP 932 = [54, 52, 52] := by decide +kernel
set_option maxHeartbeats 1000000 in
set_option maxRecDepth 100000 in
theorem alive_any (w : World) : Calls Tryd.prog 6 #[] w fun e w' => e = .returned (.bool true) ∧ Below w.heap.size w w' := by
  have C1 := hide (fun W => parse_any { data := #[103, 61, 117, 114] } W (by decide))
  have C2 := hide (fun W => by_any { data := #[117, 43, 120] } 420 0 false W (by decide))
  have C3 := hide (fun W => by_any { data := #[103, 111, 61, 117] } 416 0 false W (by decide))
  have C4 := hide (fun W => by_any { data := #[97, 43, 88] } 420 0 true W (by decide))
  have C5 := hide (fun W => by_any { data := #[43, 119] } 292 18 false W (by decide))
  have C6 := hide (fun W => by_any { data := #[61] } 511 18 false W (by decide))
  have C7 := hide (fun W => text_any 1 416 W)
  have C8 := hide (fun W => octal_any 932 W)
  rw [show bs { data := #[117, 43, 120] } = [117, 43, 120] from rfl, al2] at C2
  rw [show bs { data := #[103, 111, 61, 117] } = [103, 111, 61, 117] from rfl, al3] at C3
  rw [show bs { data := #[97, 43, 88] } = [97, 43, 88] from rfl, al4] at C4
  rw [show bs { data := #[43, 119] } = [43, 119] from rfl, al5] at C5
  rw [show bs { data := #[61] } = [61] from rfl, al6] at C6
  rw [al7] at C7
  rw [al8] at C8
  go_enter Tryd.func6, Tryd.ntmps6
  go_wp2_with fail
  refine (unhide C1 _).mono ?_
  rintro e w1 ⟨v, rfl, hO, hb1⟩
  rw [show bs { data := #[103, 61, 117, 114] } = [103, 61, 117, 114] from rfl, al1]
  obtain ⟨a, c, rfl⟩ := row_slice hO
  have B1 := hide hb1
  clear hb1 hO C1
  go_wp2_with fail
  refine (unhide C2 _).mono ?_
  rintro e w2 ⟨rfl, hb⟩
  have B2 := hide ((unhide B1).trans (hb.mono (unhide B1).size))
  clear hb C2 B1
  go_wp2_with fail
  refine (unhide C3 _).mono ?_
  rintro e w3 ⟨rfl, hb⟩
  have B3 := hide ((unhide B2).trans (hb.mono (unhide B2).size))
  clear hb C3 B2
  go_wp2_with fail
  refine (unhide C4 _).mono ?_
  rintro e w4 ⟨rfl, hb⟩
  have B4 := hide ((unhide B3).trans (hb.mono (unhide B3).size))
  clear hb C4 B3
  go_wp2_with fail
  refine (unhide C5 _).mono ?_
  rintro e w5 ⟨rfl, hb⟩
  have B5 := hide ((unhide B4).trans (hb.mono (unhide B4).size))
  clear hb C5 B4
  go_wp2_with fail
  refine (unhide C6 _).mono ?_
  rintro e w6 ⟨rfl, hb⟩
  have B6 := hide ((unhide B5).trans (hb.mono (unhide B5).size))
  clear hb C6 B5
  go_wp2_with fail
  refine (unhide C7 _).mono ?_
  rintro e w7 ⟨rfl, hb⟩
  have B7 := hide ((unhide B6).trans (hb.mono (unhide B6).size))
  clear hb C7 B6
  go_wp2_with fail
  refine (unhide C8 _).mono ?_
  rintro e w8 ⟨rfl, hb⟩
  have B8 := hide ((unhide B7).trans (hb.mono (unhide B7).size))
  clear hb C8 B7
  go_wp2_with fail
  go_ret
  exact ⟨rfl, unhide B8⟩
end Go.Proofs.YtijknodbaddelabDoor.Mo
