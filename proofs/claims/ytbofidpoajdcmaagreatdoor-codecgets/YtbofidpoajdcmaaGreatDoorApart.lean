/- Apart, from what fill, grow and look of the twelve kinds leave. -/
import Derived.Test.YtbofidpoajdcmaaGreatDoorRows
import Derived.Test.YtbofidpoajdcmaaGreatDoorBookPlain
import Derived.WalkLawsBesides
import Derived.BigQuiet
namespace Go.Proofs.YtbofidpoajdcmaaGreatDoor.Bk
open Go.RowKit

set_option maxHeartbeats 2000000 in
set_option maxRecDepth 100000 in
theorem apart_any (P : Nat) (S : Nat → World → Prop) (w : World) (hs : S 0 w)
    (h0 : ∀ w, S 0 w → Calls Tryz.prog 41 #[.pointer (some ⟨P, 0, none⟩)] w fun e w' => e = .returned (.tuple #[]) ∧ S 1 w')
    (h1 : ∀ w, S 1 w → Calls Tryz.prog 42 #[.pointer (some ⟨P, 0, none⟩)] w fun e w' => e = .returned (.tuple #[]) ∧ S 2 w')
    (h2 : ∀ w, S 2 w → Calls Tryz.prog 43 #[.pointer (some ⟨P, 0, none⟩)] w fun e w' => e = .returned (.tuple #[]) ∧ S 3 w')
    (h3 : ∀ w, S 3 w → Calls Tryz.prog 44 #[.pointer (some ⟨P, 0, none⟩)] w fun e w' => e = .returned (.tuple #[]) ∧ S 4 w')
    (h4 : ∀ w, S 4 w → Calls Tryz.prog 45 #[.pointer (some ⟨P, 0, none⟩)] w fun e w' => e = .returned (.tuple #[]) ∧ S 5 w')
    (h5 : ∀ w, S 5 w → Calls Tryz.prog 46 #[.pointer (some ⟨P, 0, none⟩)] w fun e w' => e = .returned (.tuple #[]) ∧ S 6 w')
    (h6 : ∀ w, S 6 w → Calls Tryz.prog 47 #[.pointer (some ⟨P, 0, none⟩)] w fun e w' => e = .returned (.tuple #[]) ∧ S 7 w')
    (h7 : ∀ w, S 7 w → Calls Tryz.prog 48 #[.pointer (some ⟨P, 0, none⟩)] w fun e w' => e = .returned (.tuple #[]) ∧ S 8 w')
    (h8 : ∀ w, S 8 w → Calls Tryz.prog 49 #[.pointer (some ⟨P, 0, none⟩)] w fun e w' => e = .returned (.tuple #[]) ∧ S 9 w')
    (h9 : ∀ w, S 9 w → Calls Tryz.prog 50 #[.pointer (some ⟨P, 0, none⟩)] w fun e w' => e = .returned (.tuple #[]) ∧ S 10 w')
    (h10 : ∀ w, S 10 w → Calls Tryz.prog 51 #[.pointer (some ⟨P, 0, none⟩)] w fun e w' => e = .returned (.tuple #[]) ∧ S 11 w')
    (h11 : ∀ w, S 11 w → Calls Tryz.prog 52 #[.pointer (some ⟨P, 0, none⟩)] w fun e w' => e = .returned (.tuple #[]) ∧ S 12 w')
    (h12 : ∀ w, S 12 w → Calls Tryz.prog 53 #[.pointer (some ⟨P, 0, none⟩)] w fun e w' => e = .returned (.tuple #[]) ∧ S 13 w')
    (h13 : ∀ w, S 13 w → Calls Tryz.prog 54 #[.pointer (some ⟨P, 0, none⟩)] w fun e w' => e = .returned (.tuple #[]) ∧ S 14 w')
    (h14 : ∀ w, S 14 w → Calls Tryz.prog 55 #[.pointer (some ⟨P, 0, none⟩)] w fun e w' => e = .returned (.tuple #[]) ∧ S 15 w')
    (h15 : ∀ w, S 15 w → Calls Tryz.prog 56 #[.pointer (some ⟨P, 0, none⟩)] w fun e w' => e = .returned (.tuple #[]) ∧ S 16 w')
    (h16 : ∀ w, S 16 w → Calls Tryz.prog 57 #[.pointer (some ⟨P, 0, none⟩)] w fun e w' => e = .returned (.tuple #[]) ∧ S 17 w')
    (h17 : ∀ w, S 17 w → Calls Tryz.prog 58 #[.pointer (some ⟨P, 0, none⟩)] w fun e w' => e = .returned (.tuple #[]) ∧ S 18 w')
    (h18 : ∀ w, S 18 w → Calls Tryz.prog 59 #[.pointer (some ⟨P, 0, none⟩)] w fun e w' => e = .returned (.tuple #[]) ∧ S 19 w')
    (h19 : ∀ w, S 19 w → Calls Tryz.prog 60 #[.pointer (some ⟨P, 0, none⟩)] w fun e w' => e = .returned (.tuple #[]) ∧ S 20 w')
    (h20 : ∀ w, S 20 w → Calls Tryz.prog 61 #[.pointer (some ⟨P, 0, none⟩)] w fun e w' => e = .returned (.tuple #[]) ∧ S 21 w')
    (h21 : ∀ w, S 21 w → Calls Tryz.prog 62 #[.pointer (some ⟨P, 0, none⟩)] w fun e w' => e = .returned (.tuple #[]) ∧ S 22 w')
    (h22 : ∀ w, S 22 w → Calls Tryz.prog 63 #[.pointer (some ⟨P, 0, none⟩)] w fun e w' => e = .returned (.tuple #[]) ∧ S 23 w')
    (h23 : ∀ w, S 23 w → Calls Tryz.prog 64 #[.pointer (some ⟨P, 0, none⟩)] w fun e w' => e = .returned (.tuple #[]) ∧ S 24 w')
    (h24 : ∀ w, S 24 w → Calls Tryz.prog 65 #[.pointer (some ⟨P, 0, none⟩)] w fun e w' => e = .returned (.bool true) ∧ S 25 w')
    (h25 : ∀ w, S 25 w → Calls Tryz.prog 66 #[.pointer (some ⟨P, 0, none⟩)] w fun e w' => e = .returned (.bool true) ∧ S 26 w')
    (h26 : ∀ w, S 26 w → Calls Tryz.prog 67 #[.pointer (some ⟨P, 0, none⟩)] w fun e w' => e = .returned (.bool true) ∧ S 27 w')
    (h27 : ∀ w, S 27 w → Calls Tryz.prog 68 #[.pointer (some ⟨P, 0, none⟩)] w fun e w' => e = .returned (.bool true) ∧ S 28 w')
    (h28 : ∀ w, S 28 w → Calls Tryz.prog 69 #[.pointer (some ⟨P, 0, none⟩)] w fun e w' => e = .returned (.bool true) ∧ S 29 w')
    (h29 : ∀ w, S 29 w → Calls Tryz.prog 70 #[.pointer (some ⟨P, 0, none⟩)] w fun e w' => e = .returned (.bool true) ∧ S 30 w')
    (h30 : ∀ w, S 30 w → Calls Tryz.prog 71 #[.pointer (some ⟨P, 0, none⟩)] w fun e w' => e = .returned (.bool true) ∧ S 31 w')
    (h31 : ∀ w, S 31 w → Calls Tryz.prog 72 #[.pointer (some ⟨P, 0, none⟩)] w fun e w' => e = .returned (.bool true) ∧ S 32 w')
    (h32 : ∀ w, S 32 w → Calls Tryz.prog 73 #[.pointer (some ⟨P, 0, none⟩)] w fun e w' => e = .returned (.bool true) ∧ S 33 w')
    (h33 : ∀ w, S 33 w → Calls Tryz.prog 74 #[.pointer (some ⟨P, 0, none⟩)] w fun e w' => e = .returned (.bool true) ∧ S 34 w')
    (h34 : ∀ w, S 34 w → Calls Tryz.prog 75 #[.pointer (some ⟨P, 0, none⟩)] w fun e w' => e = .returned (.bool true) ∧ S 35 w')
    (h35 : ∀ w, S 35 w → Calls Tryz.prog 76 #[.pointer (some ⟨P, 0, none⟩)] w fun e w' => e = .returned (.bool true) ∧ S 36 w') :
    Calls Tryz.prog 15 #[.pointer (some ⟨P, 0, none⟩)] w fun e w' => e = .returned (.bool true) ∧ S 36 w' := by
  have H0 := hide h0
  have H1 := hide h1
  have H2 := hide h2
  have H3 := hide h3
  have H4 := hide h4
  have H5 := hide h5
  have H6 := hide h6
  have H7 := hide h7
  have H8 := hide h8
  have H9 := hide h9
  have H10 := hide h10
  have H11 := hide h11
  have H12 := hide h12
  have H13 := hide h13
  have H14 := hide h14
  have H15 := hide h15
  have H16 := hide h16
  have H17 := hide h17
  have H18 := hide h18
  have H19 := hide h19
  have H20 := hide h20
  have H21 := hide h21
  have H22 := hide h22
  have H23 := hide h23
  have H24 := hide h24
  have H25 := hide h25
  have H26 := hide h26
  have H27 := hide h27
  have H28 := hide h28
  have H29 := hide h29
  have H30 := hide h30
  have H31 := hide h31
  have H32 := hide h32
  have H33 := hide h33
  have H34 := hide h34
  have H35 := hide h35
  have HS := hide hs
  clear hs h0 h1 h2 h3 h4 h5 h6 h7 h8 h9 h10 h11 h12 h13 h14 h15 h16 h17 h18 h19 h20 h21 h22 h23 h24 h25 h26 h27 h28 h29 h30 h31 h32 h33 h34 h35
  go_enter Tryz.func15, Tryz.ntmps15
  go_wp2_with fail
  refine (unhide H0 _ (unhide HS)).mono ?_
  clear HS H0
  rintro e w' ⟨rfl, hs⟩
  have HS := hide hs
  clear hs
  go_wp2_with fail
  refine (unhide H1 _ (unhide HS)).mono ?_
  clear HS H1
  rintro e w' ⟨rfl, hs⟩
  have HS := hide hs
  clear hs
  go_wp2_with fail
  refine (unhide H2 _ (unhide HS)).mono ?_
  clear HS H2
  rintro e w' ⟨rfl, hs⟩
  have HS := hide hs
  clear hs
  go_wp2_with fail
  refine (unhide H3 _ (unhide HS)).mono ?_
  clear HS H3
  rintro e w' ⟨rfl, hs⟩
  have HS := hide hs
  clear hs
  go_wp2_with fail
  refine (unhide H4 _ (unhide HS)).mono ?_
  clear HS H4
  rintro e w' ⟨rfl, hs⟩
  have HS := hide hs
  clear hs
  go_wp2_with fail
  refine (unhide H5 _ (unhide HS)).mono ?_
  clear HS H5
  rintro e w' ⟨rfl, hs⟩
  have HS := hide hs
  clear hs
  go_wp2_with fail
  refine (unhide H6 _ (unhide HS)).mono ?_
  clear HS H6
  rintro e w' ⟨rfl, hs⟩
  have HS := hide hs
  clear hs
  go_wp2_with fail
  refine (unhide H7 _ (unhide HS)).mono ?_
  clear HS H7
  rintro e w' ⟨rfl, hs⟩
  have HS := hide hs
  clear hs
  go_wp2_with fail
  refine (unhide H8 _ (unhide HS)).mono ?_
  clear HS H8
  rintro e w' ⟨rfl, hs⟩
  have HS := hide hs
  clear hs
  go_wp2_with fail
  refine (unhide H9 _ (unhide HS)).mono ?_
  clear HS H9
  rintro e w' ⟨rfl, hs⟩
  have HS := hide hs
  clear hs
  go_wp2_with fail
  refine (unhide H10 _ (unhide HS)).mono ?_
  clear HS H10
  rintro e w' ⟨rfl, hs⟩
  have HS := hide hs
  clear hs
  go_wp2_with fail
  refine (unhide H11 _ (unhide HS)).mono ?_
  clear HS H11
  rintro e w' ⟨rfl, hs⟩
  have HS := hide hs
  clear hs
  go_wp2_with fail
  refine (unhide H12 _ (unhide HS)).mono ?_
  clear HS H12
  rintro e w' ⟨rfl, hs⟩
  have HS := hide hs
  clear hs
  go_wp2_with fail
  refine (unhide H13 _ (unhide HS)).mono ?_
  clear HS H13
  rintro e w' ⟨rfl, hs⟩
  have HS := hide hs
  clear hs
  go_wp2_with fail
  refine (unhide H14 _ (unhide HS)).mono ?_
  clear HS H14
  rintro e w' ⟨rfl, hs⟩
  have HS := hide hs
  clear hs
  go_wp2_with fail
  refine (unhide H15 _ (unhide HS)).mono ?_
  clear HS H15
  rintro e w' ⟨rfl, hs⟩
  have HS := hide hs
  clear hs
  go_wp2_with fail
  refine (unhide H16 _ (unhide HS)).mono ?_
  clear HS H16
  rintro e w' ⟨rfl, hs⟩
  have HS := hide hs
  clear hs
  go_wp2_with fail
  refine (unhide H17 _ (unhide HS)).mono ?_
  clear HS H17
  rintro e w' ⟨rfl, hs⟩
  have HS := hide hs
  clear hs
  go_wp2_with fail
  refine (unhide H18 _ (unhide HS)).mono ?_
  clear HS H18
  rintro e w' ⟨rfl, hs⟩
  have HS := hide hs
  clear hs
  go_wp2_with fail
  refine (unhide H19 _ (unhide HS)).mono ?_
  clear HS H19
  rintro e w' ⟨rfl, hs⟩
  have HS := hide hs
  clear hs
  go_wp2_with fail
  refine (unhide H20 _ (unhide HS)).mono ?_
  clear HS H20
  rintro e w' ⟨rfl, hs⟩
  have HS := hide hs
  clear hs
  go_wp2_with fail
  refine (unhide H21 _ (unhide HS)).mono ?_
  clear HS H21
  rintro e w' ⟨rfl, hs⟩
  have HS := hide hs
  clear hs
  go_wp2_with fail
  refine (unhide H22 _ (unhide HS)).mono ?_
  clear HS H22
  rintro e w' ⟨rfl, hs⟩
  have HS := hide hs
  clear hs
  go_wp2_with fail
  refine (unhide H23 _ (unhide HS)).mono ?_
  clear HS H23
  rintro e w' ⟨rfl, hs⟩
  have HS := hide hs
  clear hs
  go_wp2_with fail
  refine (unhide H24 _ (unhide HS)).mono ?_
  clear HS H24
  rintro e w' ⟨rfl, hs⟩
  have HS := hide hs
  clear hs
  go_wp2_with fail
  refine (unhide H25 _ (unhide HS)).mono ?_
  clear HS H25
  rintro e w' ⟨rfl, hs⟩
  have HS := hide hs
  clear hs
  go_wp2_with fail
  refine (unhide H26 _ (unhide HS)).mono ?_
  clear HS H26
  rintro e w' ⟨rfl, hs⟩
  have HS := hide hs
  clear hs
  go_wp2_with fail
  refine (unhide H27 _ (unhide HS)).mono ?_
  clear HS H27
  rintro e w' ⟨rfl, hs⟩
  have HS := hide hs
  clear hs
  go_wp2_with fail
  refine (unhide H28 _ (unhide HS)).mono ?_
  clear HS H28
  rintro e w' ⟨rfl, hs⟩
  have HS := hide hs
  clear hs
  go_wp2_with fail
  refine (unhide H29 _ (unhide HS)).mono ?_
  clear HS H29
  rintro e w' ⟨rfl, hs⟩
  have HS := hide hs
  clear hs
  go_wp2_with fail
  refine (unhide H30 _ (unhide HS)).mono ?_
  clear HS H30
  rintro e w' ⟨rfl, hs⟩
  have HS := hide hs
  clear hs
  go_wp2_with fail
  refine (unhide H31 _ (unhide HS)).mono ?_
  clear HS H31
  rintro e w' ⟨rfl, hs⟩
  have HS := hide hs
  clear hs
  go_wp2_with fail
  refine (unhide H32 _ (unhide HS)).mono ?_
  clear HS H32
  rintro e w' ⟨rfl, hs⟩
  have HS := hide hs
  clear hs
  go_wp2_with fail
  refine (unhide H33 _ (unhide HS)).mono ?_
  clear HS H33
  rintro e w' ⟨rfl, hs⟩
  have HS := hide hs
  clear hs
  go_wp2_with fail
  refine (unhide H34 _ (unhide HS)).mono ?_
  clear HS H34
  rintro e w' ⟨rfl, hs⟩
  have HS := hide hs
  clear hs
  go_wp2_with fail
  refine (unhide H35 _ (unhide HS)).mono ?_
  clear HS H35
  rintro e w' ⟨rfl, hs⟩
  have HS := hide hs
  clear hs
  go_wp2_with fail
  go_ret
  exact ⟨rfl, unhide HS⟩
end Go.Proofs.YtbofidpoajdcmaaGreatDoor.Bk
