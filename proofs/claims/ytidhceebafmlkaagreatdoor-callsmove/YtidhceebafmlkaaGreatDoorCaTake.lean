import Derived.Test.YtidhceebafmlkaaGreatDoorCaUp
import Derived.Test.YtidhceebafmlkaaGreatDoorCaSym
namespace Go.Proofs.YtidhceebafmlkaaGreatDoor.Ca
open Go.RowKit Cu Tr Pm Pt
theorem height_le (a : Ac) (d : Nat) : a.height d ≤ 33 := by
  unfold Ac.height
  generalize List.range a.ns.length = l
  have q : ∀ (l : List Nat) (h : Nat), h ≤ 33 → l.foldl (fun h i => if isD (nd a.ns i) && (stepsUp a.ns d 33 i).2 then max h (stepsUp a.ns d 33 i).1 else h) h ≤ 33 := by
    intro l
    induction l with
    | nil => intro h hh; exact hh
    | cons i l ih =>
      intro h hh
      rw [List.foldl_cons]
      refine ih _ ?_
      have := up_le a.ns d 33 i
      split
      · omega
      · exact hh
  exact q l 0 (by omega)
set_option linter.unusedSimpArgs false in
set_option maxRecDepth 100000 in
set_option maxHeartbeats 4000000 in
theorem mayTakePlace_any (A : Nat) (x : Option Addr) (n cap : Nat) (dx : Option Addr) (dc : Nat) (a : Ac) (w : World) (h : At w A x n cap dx dc a) (hp : Okp a.ns a.p) (hq : Okp a.ns a.q) :
    Calls Tryz.prog 203 #[.pointer (some ⟨A, 0, none⟩)] w fun e w' => e = .returned (.int .i64 a.mayTakePlace) ∧ Below w.heap.size w w' := by
  obtain ⟨pm, hpm, hpn, -⟩ := hp.node h.chk
  obtain ⟨qd, hqd, hqr⟩ := hq.dir
  obtain ⟨qm, hqm, hqn, -⟩ := hq.node h.chk
  obtain ⟨b2, hb2⟩ : ∃ b, b = isN a.there := ⟨_, rfl⟩
  obtain ⟨b3, hb3⟩ : ∃ b, b = isD a.there := ⟨_, rfl⟩
  obtain ⟨b0, hb0⟩ : ∃ b, b = isD a.here := ⟨_, rfl⟩
  have HTT : Hid (∀ W, At W A x n cap dx dc a → Calls Tryz.prog 247 #[.pointer (some ⟨A, 0, none⟩)] W fun e w' => (∃ v, e = .returned v ∧ IsNd w' v a.there) ∧ Below W.heap.size W w') := fun W hW => there_any A x n cap dx dc a qm W hW hqm hqn
  have HHH : Hid (∀ W, At W A x n cap dx dc a → Calls Tryz.prog 186 #[.pointer (some ⟨A, 0, none⟩)] W fun e w' => (∃ v, e = .returned v ∧ IsNd w' v a.here) ∧ Below W.heap.size W w') := fun W hW => here_any A x n cap dx dc a pm W hW hpm hpn
  have HHD : Hid (∀ v W, IsNd W v a.here → Calls Tryz.prog 197 #[v] W fun e w' => e = .returned (.bool b0) ∧ Below W.heap.size W w') := fun v W hW => by rw [hb0]; exact isDir_any' v a.here W hW
  have HBU : Hid (∀ W, At W A x n cap dx dc a → Calls Tryz.prog 198 #[.pointer (some ⟨A, 0, none⟩), .int .i64 a.q.node] W fun e w' => e = .returned (.bool (a.isBusy a.q.node)) ∧ Below W.heap.size W w') := fun W hW => by rw [hqm]; exact isBusy_any A x n cap dx dc a qm W hW hqn
  have HDE : Hid (∀ W, At W A x n cap dx dc a → Calls Tryz.prog 192 #[.agg #[.slice x n cap, .int .i64 a.now], .int .i64 a.q.dir] W fun e w' => e = .returned (.int .i64 (depthV a.now a.ns a.q.dir)) ∧ Below W.heap.size W w') := fun W hW => depth_any x n cap a.ns a.now a.q.dir W hW.ng (sm_of hW.chk)
  have HHT : Hid (∀ W, At W A x n cap dx dc a → Calls Tryz.prog 251 #[.pointer (some ⟨A, 0, none⟩), .int .i64 a.p.node] W fun e w' => e = .returned (.int .i64 (a.height pm : Nat)) ∧ Below W.heap.size W w') := fun W hW => by rw [hpm]; exact height_any A x n cap dx dc a pm W hW
  obtain ⟨US, UB, hUS⟩ : ∃ US UB, stepsUp a.ns pm 33 qd = (US, UB) := ⟨_, _, rfl⟩
  have HUP : Hid (∀ W, At W A x n cap dx dc a → Calls Tryz.prog 250 #[.pointer (some ⟨A, 0, none⟩), .int .i64 a.q.dir, .int .i64 a.p.node] W fun e w' => e = .returned (.tuple #[.int .i64 (US : Nat), .bool UB]) ∧ w' = W) := fun W hW => by
    obtain ⟨-, s, hs, hup⟩ := (hung_check h.chk).good qd hqr.2.1 hqr.2.2
    have q := stepsUp_any A x n cap dx dc a qd pm s W hW hup hs
    rw [hUS] at q
    rw [hqd, hpm]
    exact q
  have hD1 : 0 ≤ depthV a.now a.ns a.q.dir ∧ depthV a.now a.ns a.q.dir ≤ 16384 := by
    unfold depthV
    rw [hqd]
    split
    · rename_i hd; have := (namesTo_len hd).2; rw [Int.toNat_natCast]; omega
    · omega
  have hD2 : a.height pm ≤ 33 := height_le a pm
  have HV : Hid (a.mayTakePlace = if b0 then orP [wh UB 15, wh (!b2 && !b3) 9, wh (b3 && a.isBusy a.q.node) 14, wh (decide (32 < depthV a.now a.ns a.q.dir + 1 + (a.height pm : Int))) 3] else orP [wh b3 8, wh (b2 && a.q.dirs) 9]) := by
    show _ = _
    have e1 : a.p.node.toNat = pm := by rw [hpm]; rfl
    have e2 : a.q.dir.toNat = qd := by rw [hqd]; rfl
    unfold Ac.mayTakePlace
    rw [e1, e2, hUS, ← hb2, ← hb3, ← hb0]
  generalize depthV a.now a.ns a.q.dir = DV at *
  generalize a.height pm = HT at *
  have HWR : Hid (IntKind.i64.wrap (IntKind.i64.wrap (DV + 1) + (HT : Int)) = DV + 1 + (HT : Int)) := by
    show _ = _
    rw [IntWalk.i64_left, IntWalk.i64_left]
    unfold wrap64
    omega
  have HB2 := hide hb2
  have HB3 := hide hb3
  have HA1 := hide h
  clear h hp hq hpm hpn hqd hqr hqm hqn hb0 hb2 hb3 hUS hD1 hD2
  go_enter Tryz.func203, Tryz.ntmps203
  go_wp2_with fail
  refine (uh HTT _ (uh HA1)).mono ?_
  rintro e w2 ⟨⟨vh, rfl, da, ec, la, lc, hvh, -, -⟩, hb2⟩
  subst hvh
  have HA2 := hide ((uh HA1).below hb2)
  have BB2 := hide hb2
  have HIN : Hid (∀ W, Calls Tryz.prog 190 #[.agg (na a.there (.slice da a.there.data.length ec) (.slice la a.there.list.length lc))] W fun e w' => e = .returned (.bool b2) ∧ Below W.heap.size W w') := fun W => by rw [uh HB2]; exact isNone_val _ _ _ W
  have HID : Hid (∀ W, Calls Tryz.prog 197 #[.agg (na a.there (.slice da a.there.data.length ec) (.slice la a.there.list.length lc))] W fun e w' => e = .returned (.bool b3) ∧ Below W.heap.size W w') := fun W => by rw [uh HB3]; exact isDir_val9 _ _ _ W
  clear hb2 HTT
  go_upto_region 2 with fail
  obtain ⟨nb, hnb⟩ : ∃ nb, nb = w2.heap.size := ⟨_, rfl⟩
  obtain ⟨w3, hw3⟩ : ∃ w3, w3 = w2.alloc (.cells (na a.there (.slice da a.there.data.length ec) (.slice la a.there.list.length lc)) 82) := ⟨_, rfl⟩
  rw [← hnb]
  rw [← hw3]
  have HS3 : Hid (As w3 A x n cap dx dc a nb a.there (.slice da a.there.data.length ec) (.slice la a.there.list.length lc)) := by rw [hw3, hnb]; exact ⟨(uh HA2).al _, heap_alloc_new w2 _⟩
  have BB3 : Hid (Below w.heap.size w w3) := by rw [hw3]; exact (uh BB2).alloc (uh BB2).size _
  clear hnb hw3 BB2 HA2
  go_wp2_with fail
  refine (uh HHH _ (uh HS3).act).mono ?_
  rintro e w4 ⟨⟨vh, rfl, hnd⟩, hb4⟩
  have HS4 := hide ((uh HS3).below hb4)
  have BB4 := hide ((uh BB3).trans (hb4.mono (uh BB3).size))
  have HND := hide hnd
  clear hnd hb4 HS3 BB3 HHH
  go_wp2_with fail
  refine (uh HHD _ _ (uh HND)).mono ?_
  rintro e w5 ⟨rfl, hb5⟩
  have HS0 : Hid (As w5.drew A x n cap dx dc a nb a.there (.slice da a.there.data.length ec) (.slice la a.there.list.length lc)) := ((uh HS4).below hb5).dr
  have BB0 : Hid (Below w.heap.size w w5.drew) := below_dr ((uh BB4).trans (hb5.mono (uh BB4).size))
  clear hb5 HS4 BB4 HHD HND HA1
  cases b0 with
  | false =>
    simp only [Bool.false_eq_true, if_false] at HV
    cases b2 with
    | false =>
      simp only [Bool.false_and] at HV
      go_wp2_with fail
      refine wp_region_held_drew (S := (fun w' => As w' A x n cap dx dc a nb a.there (.slice da a.there.data.length ec) (.slice la a.there.list.length lc))) (by kernel_rfl) (uh HS0) (fun hHeld => ?_)
      refine tk 0 rfl (v := ?v43) (.inl ⟨by rfl, ?hy43⟩) ?rest43
      case hy43 => intro w hSw; have hSc := As.fa hSw; go_simp; try with_reducible rfl
      try simp only [pS]
      refine tk 3 rfl (v := ?v44) (.inl ⟨by rfl, ?hy44⟩) ?rest44
      case hy44 => intro w hSw; have hSc := As.fa hSw; go_simp; try with_reducible rfl
      try simp only [pS]
      refine wpAnyH_ready (rs := [1]) (by kernel_rfl) (by simp) ?_
      refine rc rfl fun K hK => ?_
      go_simp
      refine ((uh HID _)).mono ?_; rintro e w1' ⟨rfl, hb1⟩; have HS1 := hide ((uh HS0).below hb1); have BB1 := hide ((uh BB0).trans (hb1.mono (uh BB0).size)); clear hb1
      go_wp2_with fail
      refine hK.out _ _ (by first | exact (uh HS1) | assumption | (dsimp only; assumption)) (fun hHeld2 => ?_)
      clear hK K
      try simp only [pS]
      refine wpAnyH_ready (rs := [2]) (by kernel_rfl) (by simp) ?_
      refine rc rfl fun K hK => ?_
      go_simp
      refine (when_any _ _ _).mono ?_; rintro e ww2 ⟨rfl, hw2⟩; subst hw2
      go_wp2_with fail
      refine hK.out _ _ (by first | exact (uh HS1) | assumption | (dsimp only; assumption)) (fun hHeld2 => ?_)
      clear hK K
      try simp only [pS]
      refine wpAnyH_ready (rs := [4]) (by kernel_rfl) (by simp) ?_
      refine rc rfl fun K hK => ?_
      go_simp
      refine ((uh HIN _)).mono ?_; rintro e w2' ⟨rfl, hb2⟩; have HS2 := hide ((uh HS1).below hb2); have BB2 := hide ((uh BB1).trans (hb2.mono (uh BB1).size)); clear hb2
      go_wp2_with fail
      refine hK.out _ _ (by first | exact (uh HS2) | assumption | (dsimp only; assumption)) (fun hHeld2 => ?_)
      clear hK K
      try simp only [pS]
      refine tk 5 rfl (v := ?v45) (.inl ⟨by rfl, ?hy45⟩) ?rest45
      case hy45 => intro w hSw; have hSc := As.fa hSw; go_simp; try with_reducible rfl
      try simp only [pS]
      refine tk 6 rfl (v := undef) (.inr ⟨by rfl, rfl⟩) ?_
      try simp only [pS]
      refine tk 7 rfl (v := undef) (.inr ⟨by rfl, rfl⟩) ?_
      try simp only [pS]
      refine tk 8 rfl (v := undef) (.inr ⟨by rfl, rfl⟩) ?_
      try simp only [pS]
      refine tk 9 rfl (v := undef) (.inr ⟨by rfl, rfl⟩) ?_
      try simp only [pS]
      refine tk 10 rfl (v := undef) (.inr ⟨by rfl, rfl⟩) ?_
      try simp only [pS]
      refine tk 11 rfl (v := ?v51) (.inl ⟨by rfl, ?hy51⟩) ?rest51
      case hy51 => intro w hSw; have hSc := As.fa hSw; go_simp; try with_reducible rfl
      try simp only [pS]
      refine wpAnyH_ready (rs := [12]) (by kernel_rfl) (by simp) ?_
      refine rc rfl fun K hK => ?_
      go_simp
      refine (when_any _ _ _).mono ?_; rintro e ww12 ⟨rfl, hw12⟩; subst hw12
      go_wp2_with fail
      refine hK.out _ _ (by first | exact (uh HS2) | assumption | (dsimp only; assumption)) (fun hHeld2 => ?_)
      clear hK K
      try simp only [pS]
      refine wpAnyH_ready (rs := [13]) (by kernel_rfl) (by simp) ?_
      refine rc rfl fun K hK => ?_
      go_simp
      skip
      go_wp2_with fail
      refine hK.out _ _ (by first | exact ((uh HS2).al _) | assumption | (dsimp only; assumption)) (fun hHeld2 => ?_)
      clear hK K
      try simp only [pS]
      refine wpAnyH_ready (rs := [14]) (by kernel_rfl) (by simp) ?_
      refine rc rfl fun K hK => ?_
      go_simp
      refine (or2_any _ _ _ _ rfl).mono ?_; rintro e ww14 ⟨rfl, hw14⟩; subst hw14
      go_wp2_with fail
      refine hK.out _ _ (by first | exact ((uh HS2).al _) | assumption | (dsimp only; assumption)) (fun hHeld2 => ?_)
      clear hK K
      try simp only [pS]
      refine tk 15 rfl (v := ?v52) (.inl ⟨by rfl, ?hy52⟩) ?rest52
      case hy52 => intro w hSw; have hSc := As.fa hSw; go_simp; try with_reducible rfl
      try simp only [pS]
      refine wpAnyH_done (by kernel_rfl) ?_ _
      go_wp2_with fail
      go_ret
      exact ⟨by rw [uh HV]; rfl, (uh BB2).alloc (uh BB2).size _⟩
    | true =>
      simp only [Bool.true_and] at HV
      go_wp2_with fail
      refine wp_region_held_drew (S := (fun w' => As w' A x n cap dx dc a nb a.there (.slice da a.there.data.length ec) (.slice la a.there.list.length lc))) (by kernel_rfl) (uh HS0) (fun hHeld => ?_)
      refine tk 0 rfl (v := ?v53) (.inl ⟨by rfl, ?hy53⟩) ?rest53
      case hy53 => intro w hSw; have hSc := As.fa hSw; go_simp; try with_reducible rfl
      try simp only [pS]
      refine tk 3 rfl (v := ?v54) (.inl ⟨by rfl, ?hy54⟩) ?rest54
      case hy54 => intro w hSw; have hSc := As.fa hSw; go_simp; try with_reducible rfl
      try simp only [pS]
      refine wpAnyH_ready (rs := [1]) (by kernel_rfl) (by simp) ?_
      refine rc rfl fun K hK => ?_
      go_simp
      refine ((uh HID _)).mono ?_; rintro e w1' ⟨rfl, hb1⟩; have HS1 := hide ((uh HS0).below hb1); have BB1 := hide ((uh BB0).trans (hb1.mono (uh BB0).size)); clear hb1
      go_wp2_with fail
      refine hK.out _ _ (by first | exact (uh HS1) | assumption | (dsimp only; assumption)) (fun hHeld2 => ?_)
      clear hK K
      try simp only [pS]
      refine wpAnyH_ready (rs := [2]) (by kernel_rfl) (by simp) ?_
      refine rc rfl fun K hK => ?_
      go_simp
      refine (when_any _ _ _).mono ?_; rintro e ww2 ⟨rfl, hw2⟩; subst hw2
      go_wp2_with fail
      refine hK.out _ _ (by first | exact (uh HS1) | assumption | (dsimp only; assumption)) (fun hHeld2 => ?_)
      clear hK K
      try simp only [pS]
      refine wpAnyH_ready (rs := [4]) (by kernel_rfl) (by simp) ?_
      refine rc rfl fun K hK => ?_
      go_simp
      refine ((uh HIN _)).mono ?_; rintro e w2' ⟨rfl, hb2⟩; have HS2 := hide ((uh HS1).below hb2); have BB2 := hide ((uh BB1).trans (hb2.mono (uh BB1).size)); clear hb2
      go_wp2_with fail
      refine hK.out _ _ (by first | exact (uh HS2) | assumption | (dsimp only; assumption)) (fun hHeld2 => ?_)
      clear hK K
      try simp only [pS]
      refine tk 5 rfl (v := ?v55) (.inl ⟨by rfl, ?hy55⟩) ?rest55
      case hy55 => intro w hSw; have hSc := As.fa hSw; go_simp; try with_reducible rfl
      try simp only [pS]
      refine tk 6 rfl (v := ?v56) (.inl ⟨by rfl, ?hy56⟩) ?rest56
      case hy56 => intro w hSw; have hSc := As.fa hSw; go_simp; try with_reducible rfl
      try simp only [pS]
      refine tk 7 rfl (v := ?v57) (.inl ⟨by rfl, ?hy57⟩) ?rest57
      case hy57 => intro w hSw; have hSc := As.fa hSw; go_simp; try with_reducible rfl
      try simp only [pS]
      refine tk 8 rfl (v := ?v58) (.inl ⟨by rfl, ?hy58⟩) ?rest58
      case hy58 => intro w hSw; have hSc := As.fa hSw; go_simp; try with_reducible rfl
      try simp only [pS]
      refine tk 9 rfl (v := ?v59) (.inl ⟨by rfl, ?hy59⟩) ?rest59
      case hy59 => intro w hSw; have hSc := As.fa hSw; go_simp; try with_reducible rfl
      try simp only [pS]
      refine tk 10 rfl (v := ?v60) (.inl ⟨by rfl, ?hy60⟩) ?rest60
      case hy60 => intro w hSw; have hSc := As.fa hSw; go_simp; try with_reducible rfl
      try simp only [pS]
      refine tk 11 rfl (v := ?v61) (.inl ⟨by rfl, ?hy61⟩) ?rest61
      case hy61 => intro w hSw; have hSc := As.fa hSw; go_simp; try with_reducible rfl
      try simp only [pS]
      refine wpAnyH_ready (rs := [12]) (by kernel_rfl) (by simp) ?_
      refine rc rfl fun K hK => ?_
      go_simp
      refine (when_any _ _ _).mono ?_; rintro e ww12 ⟨rfl, hw12⟩; subst hw12
      go_wp2_with fail
      refine hK.out _ _ (by first | exact (uh HS2) | assumption | (dsimp only; assumption)) (fun hHeld2 => ?_)
      clear hK K
      try simp only [pS]
      refine wpAnyH_ready (rs := [13]) (by kernel_rfl) (by simp) ?_
      refine rc rfl fun K hK => ?_
      go_simp
      skip
      go_wp2_with fail
      refine hK.out _ _ (by first | exact ((uh HS2).al _) | assumption | (dsimp only; assumption)) (fun hHeld2 => ?_)
      clear hK K
      try simp only [pS]
      refine wpAnyH_ready (rs := [14]) (by kernel_rfl) (by simp) ?_
      refine rc rfl fun K hK => ?_
      go_simp
      refine (or2_any _ _ _ _ rfl).mono ?_; rintro e ww14 ⟨rfl, hw14⟩; subst hw14
      go_wp2_with fail
      refine hK.out _ _ (by first | exact ((uh HS2).al _) | assumption | (dsimp only; assumption)) (fun hHeld2 => ?_)
      clear hK K
      try simp only [pS]
      refine tk 15 rfl (v := ?v62) (.inl ⟨by rfl, ?hy62⟩) ?rest62
      case hy62 => intro w hSw; have hSc := As.fa hSw; go_simp; try with_reducible rfl
      try simp only [pS]
      refine wpAnyH_done (by kernel_rfl) ?_ _
      go_wp2_with fail
      go_ret
      exact ⟨by rw [uh HV]; rfl, (uh BB2).alloc (uh BB2).size _⟩
  | true =>
    simp only [if_true] at HV
    go_wp2_with fail
    refine wp_region_held_drew (S := (fun w' => As w' A x n cap dx dc a nb a.there (.slice da a.there.data.length ec) (.slice la a.there.list.length lc))) (by kernel_rfl) (uh HS0) (fun hHeld => ?_)
    refine tk 0 rfl (v := ?v63) (.inl ⟨by rfl, ?hy63⟩) ?rest63
    case hy63 => intro w hSw; have hSc := As.fa hSw; go_simp; try with_reducible rfl
    try simp only [pS]
    refine tk 1 rfl (v := ?v64) (.inl ⟨by rfl, ?hy64⟩) ?rest64
    case hy64 => intro w hSw; have hSc := As.fa hSw; go_simp; try with_reducible rfl
    try simp only [pS]
    refine tk 2 rfl (v := ?v65) (.inl ⟨by rfl, ?hy65⟩) ?rest65
    case hy65 => intro w hSw; have hSc := As.fa hSw; go_simp; try with_reducible rfl
    try simp only [pS]
    refine tk 3 rfl (v := ?v66) (.inl ⟨by rfl, ?hy66⟩) ?rest66
    case hy66 => intro w hSw; have hSc := As.fa hSw; go_simp; try with_reducible rfl
    try simp only [pS]
    refine tk 4 rfl (v := ?v67) (.inl ⟨by rfl, ?hy67⟩) ?rest67
    case hy67 => intro w hSw; have hSc := As.fa hSw; go_simp; try with_reducible rfl
    try simp only [pS]
    refine tk 5 rfl (v := ?v68) (.inl ⟨by rfl, ?hy68⟩) ?rest68
    case hy68 => intro w hSw; have hSc := As.fa hSw; go_simp; try with_reducible rfl
    try simp only [pS]
    refine tk 6 rfl (v := ?v69) (.inl ⟨by rfl, ?hy69⟩) ?rest69
    case hy69 => intro w hSw; have hSc := As.fa hSw; go_simp; try with_reducible rfl
    try simp only [pS]
    refine tk 7 rfl (v := ?v70) (.inl ⟨by rfl, ?hy70⟩) ?rest70
    case hy70 => intro w hSw; have hSc := As.fa hSw; go_simp; try with_reducible rfl
    try simp only [pS]
    refine tk 8 rfl (v := ?v71) (.inl ⟨by rfl, ?hy71⟩) ?rest71
    case hy71 => intro w hSw; have hSc := As.fa hSw; go_simp; try with_reducible rfl
    try simp only [pS]
    refine tk 9 rfl (v := ?v72) (.inl ⟨by rfl, ?hy72⟩) ?rest72
    case hy72 => intro w hSw; have hSc := As.fa hSw; go_simp; try with_reducible rfl
    try simp only [pS]
    refine tk 10 rfl (v := ?v73) (.inl ⟨by rfl, ?hy73⟩) ?rest73
    case hy73 => intro w hSw; have hSc := As.fa hSw; go_simp; try with_reducible rfl
    try simp only [pS]
    refine wpAnyH_ready (rs := [11]) (by kernel_rfl) (by simp) ?_
    refine rc rfl fun K hK => ?_
    go_simp
    refine (uh HUP _ (uh HS0).act).mono ?_; rintro e ww11 ⟨rfl, hw11⟩; subst hw11
    go_wp2_with fail
    refine hK.out _ _ (by first | exact (uh HS0) | assumption | (dsimp only; assumption)) (fun hHeld2 => ?_)
    clear hK K
    try simp only [pS]
    refine tk 12 rfl (v := ?v74) (.inl ⟨by rfl, ?hy74⟩) ?rest74
    case hy74 => intro w hSw; have hSc := As.fa hSw; go_simp; try with_reducible rfl
    try simp only [pS]
    refine tk 13 rfl (v := ?v75) (.inl ⟨by rfl, ?hy75⟩) ?rest75
    case hy75 => intro w hSw; have hSc := As.fa hSw; go_simp; try with_reducible rfl
    try simp only [pS]
    refine tk 14 rfl (v := ?v76) (.inl ⟨by rfl, ?hy76⟩) ?rest76
    case hy76 => intro w hSw; have hSc := As.fa hSw; go_simp; try with_reducible rfl
    try simp only [pS]
    refine tk 15 rfl (v := ?v77) (.inl ⟨by rfl, ?hy77⟩) ?rest77
    case hy77 => intro w hSw; have hSc := As.fa hSw; go_simp; try with_reducible rfl
    try simp only [pS]
    refine tk 16 rfl (v := ?v78) (.inl ⟨by rfl, ?hy78⟩) ?rest78
    case hy78 => intro w hSw; have hSc := As.fa hSw; go_simp; try with_reducible rfl
    try simp only [pS]
    refine wpAnyH_done (by kernel_rfl) ?_ _
    have HS9 := hide (uh HS0).dr
    have BB9 := hide (below_dr (uh BB0))
    rcases b2 with _ | _
    · rcases b3 with _ | _
      · simp only [Bool.false_and, Bool.true_and, Bool.not_true, Bool.not_false] at HV
        go_wp2_with fail
        refine wp_region_held_drew (S := (fun w' => As w' A x n cap dx dc a nb a.there (.slice da a.there.data.length ec) (.slice la a.there.list.length lc))) (by kernel_rfl) (uh HS9) (fun hHeld => ?_)
        refine tk 0 rfl (v := ?v79) (.inl ⟨by rfl, ?hy79⟩) ?rest79
        case hy79 => intro w hSw; have hSc := As.fa hSw; go_simp; try with_reducible rfl
        try simp only [pS]
        refine tk 2 rfl (v := ?v80) (.inl ⟨by rfl, ?hy80⟩) ?rest80
        case hy80 => intro w hSw; have hSc := As.fa hSw; go_simp; try with_reducible rfl
        try simp only [pS]
        refine tk 11 rfl (v := ?v81) (.inl ⟨by rfl, ?hy81⟩) ?rest81
        case hy81 => intro w hSw; have hSc := As.fa hSw; go_simp; try with_reducible rfl
        try simp only [pS]
        refine tk 23 rfl (v := ?v82) (.inl ⟨by rfl, ?hy82⟩) ?rest82
        case hy82 => intro w hSw; have hSc := As.fa hSw; go_simp; try with_reducible rfl
        try simp only [pS]
        refine tk 24 rfl (v := ?v83) (.inl ⟨by rfl, ?hy83⟩) ?rest83
        case hy83 => intro w hSw; have hSc := As.fa hSw; go_simp; try with_reducible rfl
        try simp only [pS]
        refine tk 25 rfl (v := ?v84) (.inl ⟨by rfl, ?hy84⟩) ?rest84
        case hy84 => intro w hSw; have hSc := As.fa hSw; go_simp; try with_reducible rfl
        try simp only [pS]
        refine tk 26 rfl (v := ?v85) (.inl ⟨by rfl, ?hy85⟩) ?rest85
        case hy85 => intro w hSw; have hSc := As.fa hSw; go_simp; try with_reducible rfl
        try simp only [pS]
        refine tk 27 rfl (v := ?v86) (.inl ⟨by rfl, ?hy86⟩) ?rest86
        case hy86 => intro w hSw; have hSc := As.fa hSw; go_simp; try with_reducible rfl
        try simp only [pS]
        refine tk 28 rfl (v := ?v87) (.inl ⟨by rfl, ?hy87⟩) ?rest87
        case hy87 => intro w hSw; have hSc := As.fa hSw; go_simp; try with_reducible rfl
        try simp only [pS]
        refine tk 29 rfl (v := ?v88) (.inl ⟨by rfl, ?hy88⟩) ?rest88
        case hy88 => intro w hSw; have hSc := As.fa hSw; go_simp; try with_reducible rfl
        try simp only [pS]
        refine tk 30 rfl (v := ?v89) (.inl ⟨by rfl, ?hy89⟩) ?rest89
        case hy89 => intro w hSw; have hSc := As.fa hSw; go_simp; try with_reducible rfl
        try simp only [pS]
        refine tk 31 rfl (v := ?v90) (.inl ⟨by rfl, ?hy90⟩) ?rest90
        case hy90 => intro w hSw; have hSc := As.fa hSw; go_simp; try with_reducible rfl
        try simp only [pS]
        refine tk 34 rfl (v := ?v91) (.inl ⟨by rfl, ?hy91⟩) ?rest91
        case hy91 => intro w hSw; have hSc := As.fa hSw; go_simp; try with_reducible rfl
        try simp only [pS]
        refine tk 35 rfl (v := ?v92) (.inl ⟨by rfl, ?hy92⟩) ?rest92
        case hy92 => intro w hSw; have hSc := As.fa hSw; go_simp; try with_reducible rfl
        try simp only [pS]
        refine tk 36 rfl (v := ?v93) (.inl ⟨by rfl, ?hy93⟩) ?rest93
        case hy93 => intro w hSw; have hSc := As.fa hSw; go_simp; try with_reducible rfl
        try simp only [pS]
        refine tk 37 rfl (v := ?v94) (.inl ⟨by rfl, ?hy94⟩) ?rest94
        case hy94 => intro w hSw; have hSc := As.fa hSw; go_simp; try with_reducible rfl
        try simp only [pS]
        refine tk 38 rfl (v := ?v95) (.inl ⟨by rfl, ?hy95⟩) ?rest95
        case hy95 => intro w hSw; have hSc := As.fa hSw; go_simp; try with_reducible rfl
        try simp only [pS]
        refine tk 39 rfl (v := ?v96) (.inl ⟨by rfl, ?hy96⟩) ?rest96
        case hy96 => intro w hSw; have hSc := As.fa hSw; go_simp; try with_reducible rfl
        try simp only [pS]
        refine wpAnyH_ready (rs := [1]) (by kernel_rfl) (by simp) ?_
        refine rc rfl fun K hK => ?_
        go_simp
        refine (when_any _ _ _).mono ?_; rintro e ww1 ⟨rfl, hw1⟩; subst hw1
        go_wp2_with fail
        refine hK.out _ _ (by first | exact (uh HS9) | assumption | (dsimp only; assumption)) (fun hHeld2 => ?_)
        clear hK K
        try simp only [pS]
        refine wpAnyH_ready (rs := [3]) (by kernel_rfl) (by simp) ?_
        refine rc rfl fun K hK => ?_
        go_simp
        refine ((uh HIN _)).mono ?_; rintro e w10' ⟨rfl, hb10⟩; have HS10 := hide ((uh HS9).below hb10); have BB10 := hide ((uh BB9).trans (hb10.mono (uh BB9).size)); clear hb10
        go_wp2_with fail
        refine hK.out _ _ (by first | exact (uh HS10) | assumption | (dsimp only; assumption)) (fun hHeld2 => ?_)
        clear hK K
        try simp only [pS]
        refine tk 4 rfl (v := ?v97) (.inl ⟨by rfl, ?hy97⟩) ?rest97
        case hy97 => intro w hSw; have hSc := As.fa hSw; go_simp; try with_reducible rfl
        try simp only [pS]
        refine tk 5 rfl (v := ?v98) (.inl ⟨by rfl, ?hy98⟩) ?rest98
        case hy98 => intro w hSw; have hSc := As.fa hSw; go_simp; try with_reducible rfl
        try simp only [pS]
        refine tk 6 rfl (v := ?v99) (.inl ⟨by rfl, ?hy99⟩) ?rest99
        case hy99 => intro w hSw; have hSc := As.fa hSw; go_simp; try with_reducible rfl
        try simp only [pS]
        refine wpAnyH_ready (rs := [7]) (by kernel_rfl) (by simp) ?_
        refine rc rfl fun K hK => ?_
        go_simp
        refine ((uh HID _)).mono ?_; rintro e w11' ⟨rfl, hb11⟩; have HS11 := hide ((uh HS10).below hb11); have BB11 := hide ((uh BB10).trans (hb11.mono (uh BB10).size)); clear hb11
        go_wp2_with fail
        refine hK.out _ _ (by first | exact (uh HS11) | assumption | (dsimp only; assumption)) (fun hHeld2 => ?_)
        clear hK K
        try simp only [pS]
        refine tk 8 rfl (v := ?v100) (.inl ⟨by rfl, ?hy100⟩) ?rest100
        case hy100 => intro w hSw; have hSc := As.fa hSw; go_simp; try with_reducible rfl
        try simp only [pS]
        refine tk 9 rfl (v := ?v101) (.inl ⟨by rfl, ?hy101⟩) ?rest101
        case hy101 => intro w hSw; have hSc := As.fa hSw; go_simp; try with_reducible rfl
        try simp only [pS]
        refine wpAnyH_ready (rs := [10]) (by kernel_rfl) (by simp) ?_
        refine rc rfl fun K hK => ?_
        go_simp
        refine (when_any _ _ _).mono ?_; rintro e ww10 ⟨rfl, hw10⟩; subst hw10
        go_wp2_with fail
        refine hK.out _ _ (by first | exact (uh HS11) | assumption | (dsimp only; assumption)) (fun hHeld2 => ?_)
        clear hK K
        try simp only [pS]
        refine wpAnyH_ready (rs := [12]) (by kernel_rfl) (by simp) ?_
        refine rc rfl fun K hK => ?_
        go_simp
        refine ((uh HID _)).mono ?_; rintro e w12' ⟨rfl, hb12⟩; have HS12 := hide ((uh HS11).below hb12); have BB12 := hide ((uh BB11).trans (hb12.mono (uh BB11).size)); clear hb12
        go_wp2_with fail
        refine hK.out _ _ (by first | exact (uh HS12) | assumption | (dsimp only; assumption)) (fun hHeld2 => ?_)
        clear hK K
        try simp only [pS]
        refine tk 13 rfl (v := ?v102) (.inl ⟨by rfl, ?hy102⟩) ?rest102
        case hy102 => intro w hSw; have hSc := As.fa hSw; go_simp; try with_reducible rfl
        try simp only [pS]
        refine tk 14 rfl (v := undef) (.inr ⟨by rfl, rfl⟩) ?_
        try simp only [pS]
        refine tk 15 rfl (v := undef) (.inr ⟨by rfl, rfl⟩) ?_
        try simp only [pS]
        refine tk 16 rfl (v := undef) (.inr ⟨by rfl, rfl⟩) ?_
        try simp only [pS]
        refine tk 17 rfl (v := undef) (.inr ⟨by rfl, rfl⟩) ?_
        try simp only [pS]
        refine tk 18 rfl (v := undef) (.inr ⟨by rfl, rfl⟩) ?_
        try simp only [pS]
        refine tk 19 rfl (v := undef) (.inr ⟨by rfl, rfl⟩) ?_
        try simp only [pS]
        refine tk 20 rfl (v := undef) (.inr ⟨by rfl, rfl⟩) ?_
        try simp only [pS]
        refine tk 21 rfl (v := ?v110) (.inl ⟨by rfl, ?hy110⟩) ?rest110
        case hy110 => intro w hSw; have hSc := As.fa hSw; go_simp; try with_reducible rfl
        try simp only [pS]
        refine wpAnyH_ready (rs := [22]) (by kernel_rfl) (by simp) ?_
        refine rc rfl fun K hK => ?_
        go_simp
        refine (when_any _ _ _).mono ?_; rintro e ww22 ⟨rfl, hw22⟩; subst hw22
        go_wp2_with fail
        refine hK.out _ _ (by first | exact (uh HS12) | assumption | (dsimp only; assumption)) (fun hHeld2 => ?_)
        clear hK K
        try simp only [pS]
        refine wpAnyH_ready (rs := [32]) (by kernel_rfl) (by simp) ?_
        refine rc rfl fun K hK => ?_
        go_simp
        refine ((uh HDE _ (uh HS12).act)).mono ?_; rintro e w13' ⟨rfl, hb13⟩; have HS13 := hide ((uh HS12).below hb13); have BB13 := hide ((uh BB12).trans (hb13.mono (uh BB12).size)); clear hb13
        go_wp2_with fail
        refine hK.out _ _ (by first | exact (uh HS13) | assumption | (dsimp only; assumption)) (fun hHeld2 => ?_)
        clear hK K
        try simp only [pS]
        refine tk 33 rfl (v := ?v111) (.inl ⟨by rfl, ?hy111⟩) ?rest111
        case hy111 => intro w hSw; have hSc := As.fa hSw; go_simp; try with_reducible rfl
        try simp only [pS]
        refine wpAnyH_ready (rs := [40]) (by kernel_rfl) (by simp) ?_
        refine rc rfl fun K hK => ?_
        go_simp
        refine ((uh HHT _ (uh HS13).act)).mono ?_; rintro e w14' ⟨rfl, hb14⟩; have HS14 := hide ((uh HS13).below hb14); have BB14 := hide ((uh BB13).trans (hb14.mono (uh BB13).size)); clear hb14
        go_wp2_with fail
        refine hK.out _ _ (by first | exact (uh HS14) | assumption | (dsimp only; assumption)) (fun hHeld2 => ?_)
        clear hK K
        try simp only [pS]
        refine tk 41 rfl (v := ?v112) (.inl ⟨by rfl, ?hy112⟩) ?rest112
        case hy112 => intro w hSw; have hSc := As.fa hSw; go_simp; try with_reducible rfl
        try simp only [pS]
        refine tk 42 rfl (v := ?v113) (.inl ⟨by rfl, ?hy113⟩) ?rest113
        case hy113 => intro w hSw; have hSc := As.fa hSw; go_simp; try with_reducible rfl
        try simp only [pS]
        refine wpAnyH_ready (rs := [43]) (by kernel_rfl) (by simp) ?_
        refine rc rfl fun K hK => ?_
        go_simp
        refine (when_any _ _ _).mono ?_; rintro e ww43 ⟨rfl, hw43⟩; subst hw43
        go_wp2_with fail
        refine hK.out _ _ (by first | exact (uh HS14) | assumption | (dsimp only; assumption)) (fun hHeld2 => ?_)
        clear hK K
        try simp only [pS]
        refine wpAnyH_ready (rs := [44]) (by kernel_rfl) (by simp) ?_
        refine rc rfl fun K hK => ?_
        go_simp
        skip
        go_wp2_with fail
        refine hK.out _ _ (by first | exact ((uh HS14).al _) | assumption | (dsimp only; assumption)) (fun hHeld2 => ?_)
        clear hK K
        try simp only [pS]
        refine wpAnyH_ready (rs := [45]) (by kernel_rfl) (by simp) ?_
        refine rc rfl fun K hK => ?_
        go_simp
        refine (or4_any _ _ _ _ _ _ rfl).mono ?_; rintro e ww45 ⟨rfl, hw45⟩; subst hw45
        go_wp2_with fail
        refine hK.out _ _ (by first | exact ((uh HS14).al _) | assumption | (dsimp only; assumption)) (fun hHeld2 => ?_)
        clear hK K
        try simp only [pS]
        refine tk 46 rfl (v := ?v114) (.inl ⟨by rfl, ?hy114⟩) ?rest114
        case hy114 => intro w hSw; have hSc := As.fa hSw; go_simp; try with_reducible rfl
        try simp only [pS]
        refine wpAnyH_done (by kernel_rfl) ?_ _
        go_wp2_with fail
        go_ret
        exact ⟨by rw [uh HWR, uh HV]; rfl, (uh BB14).alloc (uh BB14).size _⟩
      · simp only [Bool.false_and, Bool.true_and, Bool.not_true, Bool.not_false] at HV
        go_wp2_with fail
        refine wp_region_held_drew (S := (fun w' => As w' A x n cap dx dc a nb a.there (.slice da a.there.data.length ec) (.slice la a.there.list.length lc))) (by kernel_rfl) (uh HS9) (fun hHeld => ?_)
        refine tk 0 rfl (v := ?v115) (.inl ⟨by rfl, ?hy115⟩) ?rest115
        case hy115 => intro w hSw; have hSc := As.fa hSw; go_simp; try with_reducible rfl
        try simp only [pS]
        refine tk 2 rfl (v := ?v116) (.inl ⟨by rfl, ?hy116⟩) ?rest116
        case hy116 => intro w hSw; have hSc := As.fa hSw; go_simp; try with_reducible rfl
        try simp only [pS]
        refine tk 11 rfl (v := ?v117) (.inl ⟨by rfl, ?hy117⟩) ?rest117
        case hy117 => intro w hSw; have hSc := As.fa hSw; go_simp; try with_reducible rfl
        try simp only [pS]
        refine tk 23 rfl (v := ?v118) (.inl ⟨by rfl, ?hy118⟩) ?rest118
        case hy118 => intro w hSw; have hSc := As.fa hSw; go_simp; try with_reducible rfl
        try simp only [pS]
        refine tk 24 rfl (v := ?v119) (.inl ⟨by rfl, ?hy119⟩) ?rest119
        case hy119 => intro w hSw; have hSc := As.fa hSw; go_simp; try with_reducible rfl
        try simp only [pS]
        refine tk 25 rfl (v := ?v120) (.inl ⟨by rfl, ?hy120⟩) ?rest120
        case hy120 => intro w hSw; have hSc := As.fa hSw; go_simp; try with_reducible rfl
        try simp only [pS]
        refine tk 26 rfl (v := ?v121) (.inl ⟨by rfl, ?hy121⟩) ?rest121
        case hy121 => intro w hSw; have hSc := As.fa hSw; go_simp; try with_reducible rfl
        try simp only [pS]
        refine tk 27 rfl (v := ?v122) (.inl ⟨by rfl, ?hy122⟩) ?rest122
        case hy122 => intro w hSw; have hSc := As.fa hSw; go_simp; try with_reducible rfl
        try simp only [pS]
        refine tk 28 rfl (v := ?v123) (.inl ⟨by rfl, ?hy123⟩) ?rest123
        case hy123 => intro w hSw; have hSc := As.fa hSw; go_simp; try with_reducible rfl
        try simp only [pS]
        refine tk 29 rfl (v := ?v124) (.inl ⟨by rfl, ?hy124⟩) ?rest124
        case hy124 => intro w hSw; have hSc := As.fa hSw; go_simp; try with_reducible rfl
        try simp only [pS]
        refine tk 30 rfl (v := ?v125) (.inl ⟨by rfl, ?hy125⟩) ?rest125
        case hy125 => intro w hSw; have hSc := As.fa hSw; go_simp; try with_reducible rfl
        try simp only [pS]
        refine tk 31 rfl (v := ?v126) (.inl ⟨by rfl, ?hy126⟩) ?rest126
        case hy126 => intro w hSw; have hSc := As.fa hSw; go_simp; try with_reducible rfl
        try simp only [pS]
        refine tk 34 rfl (v := ?v127) (.inl ⟨by rfl, ?hy127⟩) ?rest127
        case hy127 => intro w hSw; have hSc := As.fa hSw; go_simp; try with_reducible rfl
        try simp only [pS]
        refine tk 35 rfl (v := ?v128) (.inl ⟨by rfl, ?hy128⟩) ?rest128
        case hy128 => intro w hSw; have hSc := As.fa hSw; go_simp; try with_reducible rfl
        try simp only [pS]
        refine tk 36 rfl (v := ?v129) (.inl ⟨by rfl, ?hy129⟩) ?rest129
        case hy129 => intro w hSw; have hSc := As.fa hSw; go_simp; try with_reducible rfl
        try simp only [pS]
        refine tk 37 rfl (v := ?v130) (.inl ⟨by rfl, ?hy130⟩) ?rest130
        case hy130 => intro w hSw; have hSc := As.fa hSw; go_simp; try with_reducible rfl
        try simp only [pS]
        refine tk 38 rfl (v := ?v131) (.inl ⟨by rfl, ?hy131⟩) ?rest131
        case hy131 => intro w hSw; have hSc := As.fa hSw; go_simp; try with_reducible rfl
        try simp only [pS]
        refine tk 39 rfl (v := ?v132) (.inl ⟨by rfl, ?hy132⟩) ?rest132
        case hy132 => intro w hSw; have hSc := As.fa hSw; go_simp; try with_reducible rfl
        try simp only [pS]
        refine wpAnyH_ready (rs := [1]) (by kernel_rfl) (by simp) ?_
        refine rc rfl fun K hK => ?_
        go_simp
        refine (when_any _ _ _).mono ?_; rintro e ww1 ⟨rfl, hw1⟩; subst hw1
        go_wp2_with fail
        refine hK.out _ _ (by first | exact (uh HS9) | assumption | (dsimp only; assumption)) (fun hHeld2 => ?_)
        clear hK K
        try simp only [pS]
        refine wpAnyH_ready (rs := [3]) (by kernel_rfl) (by simp) ?_
        refine rc rfl fun K hK => ?_
        go_simp
        refine ((uh HIN _)).mono ?_; rintro e w10' ⟨rfl, hb10⟩; have HS10 := hide ((uh HS9).below hb10); have BB10 := hide ((uh BB9).trans (hb10.mono (uh BB9).size)); clear hb10
        go_wp2_with fail
        refine hK.out _ _ (by first | exact (uh HS10) | assumption | (dsimp only; assumption)) (fun hHeld2 => ?_)
        clear hK K
        try simp only [pS]
        refine tk 4 rfl (v := ?v133) (.inl ⟨by rfl, ?hy133⟩) ?rest133
        case hy133 => intro w hSw; have hSc := As.fa hSw; go_simp; try with_reducible rfl
        try simp only [pS]
        refine tk 5 rfl (v := ?v134) (.inl ⟨by rfl, ?hy134⟩) ?rest134
        case hy134 => intro w hSw; have hSc := As.fa hSw; go_simp; try with_reducible rfl
        try simp only [pS]
        refine tk 6 rfl (v := ?v135) (.inl ⟨by rfl, ?hy135⟩) ?rest135
        case hy135 => intro w hSw; have hSc := As.fa hSw; go_simp; try with_reducible rfl
        try simp only [pS]
        refine wpAnyH_ready (rs := [7]) (by kernel_rfl) (by simp) ?_
        refine rc rfl fun K hK => ?_
        go_simp
        refine ((uh HID _)).mono ?_; rintro e w11' ⟨rfl, hb11⟩; have HS11 := hide ((uh HS10).below hb11); have BB11 := hide ((uh BB10).trans (hb11.mono (uh BB10).size)); clear hb11
        go_wp2_with fail
        refine hK.out _ _ (by first | exact (uh HS11) | assumption | (dsimp only; assumption)) (fun hHeld2 => ?_)
        clear hK K
        try simp only [pS]
        refine tk 8 rfl (v := ?v136) (.inl ⟨by rfl, ?hy136⟩) ?rest136
        case hy136 => intro w hSw; have hSc := As.fa hSw; go_simp; try with_reducible rfl
        try simp only [pS]
        refine tk 9 rfl (v := ?v137) (.inl ⟨by rfl, ?hy137⟩) ?rest137
        case hy137 => intro w hSw; have hSc := As.fa hSw; go_simp; try with_reducible rfl
        try simp only [pS]
        refine wpAnyH_ready (rs := [10]) (by kernel_rfl) (by simp) ?_
        refine rc rfl fun K hK => ?_
        go_simp
        refine (when_any _ _ _).mono ?_; rintro e ww10 ⟨rfl, hw10⟩; subst hw10
        go_wp2_with fail
        refine hK.out _ _ (by first | exact (uh HS11) | assumption | (dsimp only; assumption)) (fun hHeld2 => ?_)
        clear hK K
        try simp only [pS]
        refine wpAnyH_ready (rs := [12]) (by kernel_rfl) (by simp) ?_
        refine rc rfl fun K hK => ?_
        go_simp
        refine ((uh HID _)).mono ?_; rintro e w12' ⟨rfl, hb12⟩; have HS12 := hide ((uh HS11).below hb12); have BB12 := hide ((uh BB11).trans (hb12.mono (uh BB11).size)); clear hb12
        go_wp2_with fail
        refine hK.out _ _ (by first | exact (uh HS12) | assumption | (dsimp only; assumption)) (fun hHeld2 => ?_)
        clear hK K
        try simp only [pS]
        refine tk 13 rfl (v := ?v138) (.inl ⟨by rfl, ?hy138⟩) ?rest138
        case hy138 => intro w hSw; have hSc := As.fa hSw; go_simp; try with_reducible rfl
        try simp only [pS]
        refine tk 14 rfl (v := ?v139) (.inl ⟨by rfl, ?hy139⟩) ?rest139
        case hy139 => intro w hSw; have hSc := As.fa hSw; go_simp; try with_reducible rfl
        try simp only [pS]
        refine tk 15 rfl (v := ?v140) (.inl ⟨by rfl, ?hy140⟩) ?rest140
        case hy140 => intro w hSw; have hSc := As.fa hSw; go_simp; try with_reducible rfl
        try simp only [pS]
        refine tk 16 rfl (v := ?v141) (.inl ⟨by rfl, ?hy141⟩) ?rest141
        case hy141 => intro w hSw; have hSc := As.fa hSw; go_simp; try with_reducible rfl
        try simp only [pS]
        refine tk 17 rfl (v := ?v142) (.inl ⟨by rfl, ?hy142⟩) ?rest142
        case hy142 => intro w hSw; have hSc := As.fa hSw; go_simp; try with_reducible rfl
        try simp only [pS]
        refine tk 18 rfl (v := ?v143) (.inl ⟨by rfl, ?hy143⟩) ?rest143
        case hy143 => intro w hSw; have hSc := As.fa hSw; go_simp; try with_reducible rfl
        try simp only [pS]
        refine tk 19 rfl (v := ?v144) (.inl ⟨by rfl, ?hy144⟩) ?rest144
        case hy144 => intro w hSw; have hSc := As.fa hSw; go_simp; try with_reducible rfl
        try simp only [pS]
        refine wpAnyH_ready (rs := [20]) (by kernel_rfl) (by simp) ?_
        refine rc rfl fun K hK => ?_
        go_simp
        refine ((uh HBU _ (uh HS12).act)).mono ?_; rintro e w13' ⟨rfl, hb13⟩; have HS13 := hide ((uh HS12).below hb13); have BB13 := hide ((uh BB12).trans (hb13.mono (uh BB12).size)); clear hb13
        go_wp2_with fail
        refine hK.out _ _ (by first | exact (uh HS13) | assumption | (dsimp only; assumption)) (fun hHeld2 => ?_)
        clear hK K
        try simp only [pS]
        refine tk 21 rfl (v := ?v145) (.inl ⟨by rfl, ?hy145⟩) ?rest145
        case hy145 => intro w hSw; have hSc := As.fa hSw; go_simp; try with_reducible rfl
        try simp only [pS]
        refine wpAnyH_ready (rs := [22]) (by kernel_rfl) (by simp) ?_
        refine rc rfl fun K hK => ?_
        go_simp
        refine (when_any _ _ _).mono ?_; rintro e ww22 ⟨rfl, hw22⟩; subst hw22
        go_wp2_with fail
        refine hK.out _ _ (by first | exact (uh HS13) | assumption | (dsimp only; assumption)) (fun hHeld2 => ?_)
        clear hK K
        try simp only [pS]
        refine wpAnyH_ready (rs := [32]) (by kernel_rfl) (by simp) ?_
        refine rc rfl fun K hK => ?_
        go_simp
        refine ((uh HDE _ (uh HS13).act)).mono ?_; rintro e w14' ⟨rfl, hb14⟩; have HS14 := hide ((uh HS13).below hb14); have BB14 := hide ((uh BB13).trans (hb14.mono (uh BB13).size)); clear hb14
        go_wp2_with fail
        refine hK.out _ _ (by first | exact (uh HS14) | assumption | (dsimp only; assumption)) (fun hHeld2 => ?_)
        clear hK K
        try simp only [pS]
        refine tk 33 rfl (v := ?v146) (.inl ⟨by rfl, ?hy146⟩) ?rest146
        case hy146 => intro w hSw; have hSc := As.fa hSw; go_simp; try with_reducible rfl
        try simp only [pS]
        refine wpAnyH_ready (rs := [40]) (by kernel_rfl) (by simp) ?_
        refine rc rfl fun K hK => ?_
        go_simp
        refine ((uh HHT _ (uh HS14).act)).mono ?_; rintro e w15' ⟨rfl, hb15⟩; have HS15 := hide ((uh HS14).below hb15); have BB15 := hide ((uh BB14).trans (hb15.mono (uh BB14).size)); clear hb15
        go_wp2_with fail
        refine hK.out _ _ (by first | exact (uh HS15) | assumption | (dsimp only; assumption)) (fun hHeld2 => ?_)
        clear hK K
        try simp only [pS]
        refine tk 41 rfl (v := ?v147) (.inl ⟨by rfl, ?hy147⟩) ?rest147
        case hy147 => intro w hSw; have hSc := As.fa hSw; go_simp; try with_reducible rfl
        try simp only [pS]
        refine tk 42 rfl (v := ?v148) (.inl ⟨by rfl, ?hy148⟩) ?rest148
        case hy148 => intro w hSw; have hSc := As.fa hSw; go_simp; try with_reducible rfl
        try simp only [pS]
        refine wpAnyH_ready (rs := [43]) (by kernel_rfl) (by simp) ?_
        refine rc rfl fun K hK => ?_
        go_simp
        refine (when_any _ _ _).mono ?_; rintro e ww43 ⟨rfl, hw43⟩; subst hw43
        go_wp2_with fail
        refine hK.out _ _ (by first | exact (uh HS15) | assumption | (dsimp only; assumption)) (fun hHeld2 => ?_)
        clear hK K
        try simp only [pS]
        refine wpAnyH_ready (rs := [44]) (by kernel_rfl) (by simp) ?_
        refine rc rfl fun K hK => ?_
        go_simp
        skip
        go_wp2_with fail
        refine hK.out _ _ (by first | exact ((uh HS15).al _) | assumption | (dsimp only; assumption)) (fun hHeld2 => ?_)
        clear hK K
        try simp only [pS]
        refine wpAnyH_ready (rs := [45]) (by kernel_rfl) (by simp) ?_
        refine rc rfl fun K hK => ?_
        go_simp
        refine (or4_any _ _ _ _ _ _ rfl).mono ?_; rintro e ww45 ⟨rfl, hw45⟩; subst hw45
        go_wp2_with fail
        refine hK.out _ _ (by first | exact ((uh HS15).al _) | assumption | (dsimp only; assumption)) (fun hHeld2 => ?_)
        clear hK K
        try simp only [pS]
        refine tk 46 rfl (v := ?v149) (.inl ⟨by rfl, ?hy149⟩) ?rest149
        case hy149 => intro w hSw; have hSc := As.fa hSw; go_simp; try with_reducible rfl
        try simp only [pS]
        refine wpAnyH_done (by kernel_rfl) ?_ _
        go_wp2_with fail
        go_ret
        exact ⟨by rw [uh HWR, uh HV]; rfl, (uh BB15).alloc (uh BB15).size _⟩
    · rcases b3 with _ | _
      · simp only [Bool.false_and, Bool.true_and, Bool.not_true, Bool.not_false] at HV
        go_wp2_with fail
        refine wp_region_held_drew (S := (fun w' => As w' A x n cap dx dc a nb a.there (.slice da a.there.data.length ec) (.slice la a.there.list.length lc))) (by kernel_rfl) (uh HS9) (fun hHeld => ?_)
        refine tk 0 rfl (v := ?v150) (.inl ⟨by rfl, ?hy150⟩) ?rest150
        case hy150 => intro w hSw; have hSc := As.fa hSw; go_simp; try with_reducible rfl
        try simp only [pS]
        refine tk 2 rfl (v := ?v151) (.inl ⟨by rfl, ?hy151⟩) ?rest151
        case hy151 => intro w hSw; have hSc := As.fa hSw; go_simp; try with_reducible rfl
        try simp only [pS]
        refine tk 11 rfl (v := ?v152) (.inl ⟨by rfl, ?hy152⟩) ?rest152
        case hy152 => intro w hSw; have hSc := As.fa hSw; go_simp; try with_reducible rfl
        try simp only [pS]
        refine tk 23 rfl (v := ?v153) (.inl ⟨by rfl, ?hy153⟩) ?rest153
        case hy153 => intro w hSw; have hSc := As.fa hSw; go_simp; try with_reducible rfl
        try simp only [pS]
        refine tk 24 rfl (v := ?v154) (.inl ⟨by rfl, ?hy154⟩) ?rest154
        case hy154 => intro w hSw; have hSc := As.fa hSw; go_simp; try with_reducible rfl
        try simp only [pS]
        refine tk 25 rfl (v := ?v155) (.inl ⟨by rfl, ?hy155⟩) ?rest155
        case hy155 => intro w hSw; have hSc := As.fa hSw; go_simp; try with_reducible rfl
        try simp only [pS]
        refine tk 26 rfl (v := ?v156) (.inl ⟨by rfl, ?hy156⟩) ?rest156
        case hy156 => intro w hSw; have hSc := As.fa hSw; go_simp; try with_reducible rfl
        try simp only [pS]
        refine tk 27 rfl (v := ?v157) (.inl ⟨by rfl, ?hy157⟩) ?rest157
        case hy157 => intro w hSw; have hSc := As.fa hSw; go_simp; try with_reducible rfl
        try simp only [pS]
        refine tk 28 rfl (v := ?v158) (.inl ⟨by rfl, ?hy158⟩) ?rest158
        case hy158 => intro w hSw; have hSc := As.fa hSw; go_simp; try with_reducible rfl
        try simp only [pS]
        refine tk 29 rfl (v := ?v159) (.inl ⟨by rfl, ?hy159⟩) ?rest159
        case hy159 => intro w hSw; have hSc := As.fa hSw; go_simp; try with_reducible rfl
        try simp only [pS]
        refine tk 30 rfl (v := ?v160) (.inl ⟨by rfl, ?hy160⟩) ?rest160
        case hy160 => intro w hSw; have hSc := As.fa hSw; go_simp; try with_reducible rfl
        try simp only [pS]
        refine tk 31 rfl (v := ?v161) (.inl ⟨by rfl, ?hy161⟩) ?rest161
        case hy161 => intro w hSw; have hSc := As.fa hSw; go_simp; try with_reducible rfl
        try simp only [pS]
        refine tk 34 rfl (v := ?v162) (.inl ⟨by rfl, ?hy162⟩) ?rest162
        case hy162 => intro w hSw; have hSc := As.fa hSw; go_simp; try with_reducible rfl
        try simp only [pS]
        refine tk 35 rfl (v := ?v163) (.inl ⟨by rfl, ?hy163⟩) ?rest163
        case hy163 => intro w hSw; have hSc := As.fa hSw; go_simp; try with_reducible rfl
        try simp only [pS]
        refine tk 36 rfl (v := ?v164) (.inl ⟨by rfl, ?hy164⟩) ?rest164
        case hy164 => intro w hSw; have hSc := As.fa hSw; go_simp; try with_reducible rfl
        try simp only [pS]
        refine tk 37 rfl (v := ?v165) (.inl ⟨by rfl, ?hy165⟩) ?rest165
        case hy165 => intro w hSw; have hSc := As.fa hSw; go_simp; try with_reducible rfl
        try simp only [pS]
        refine tk 38 rfl (v := ?v166) (.inl ⟨by rfl, ?hy166⟩) ?rest166
        case hy166 => intro w hSw; have hSc := As.fa hSw; go_simp; try with_reducible rfl
        try simp only [pS]
        refine tk 39 rfl (v := ?v167) (.inl ⟨by rfl, ?hy167⟩) ?rest167
        case hy167 => intro w hSw; have hSc := As.fa hSw; go_simp; try with_reducible rfl
        try simp only [pS]
        refine wpAnyH_ready (rs := [1]) (by kernel_rfl) (by simp) ?_
        refine rc rfl fun K hK => ?_
        go_simp
        refine (when_any _ _ _).mono ?_; rintro e ww1 ⟨rfl, hw1⟩; subst hw1
        go_wp2_with fail
        refine hK.out _ _ (by first | exact (uh HS9) | assumption | (dsimp only; assumption)) (fun hHeld2 => ?_)
        clear hK K
        try simp only [pS]
        refine wpAnyH_ready (rs := [3]) (by kernel_rfl) (by simp) ?_
        refine rc rfl fun K hK => ?_
        go_simp
        refine ((uh HIN _)).mono ?_; rintro e w10' ⟨rfl, hb10⟩; have HS10 := hide ((uh HS9).below hb10); have BB10 := hide ((uh BB9).trans (hb10.mono (uh BB9).size)); clear hb10
        go_wp2_with fail
        refine hK.out _ _ (by first | exact (uh HS10) | assumption | (dsimp only; assumption)) (fun hHeld2 => ?_)
        clear hK K
        try simp only [pS]
        refine tk 4 rfl (v := ?v168) (.inl ⟨by rfl, ?hy168⟩) ?rest168
        case hy168 => intro w hSw; have hSc := As.fa hSw; go_simp; try with_reducible rfl
        try simp only [pS]
        refine tk 5 rfl (v := ?v169) (.inl ⟨by rfl, ?hy169⟩) ?rest169
        case hy169 => intro w hSw; have hSc := As.fa hSw; go_simp; try with_reducible rfl
        try simp only [pS]
        refine tk 6 rfl (v := undef) (.inr ⟨by rfl, rfl⟩) ?_
        try simp only [pS]
        refine tk 7 rfl (v := undef) (.inr ⟨by rfl, rfl⟩) ?_
        try simp only [pS]
        refine tk 8 rfl (v := undef) (.inr ⟨by rfl, rfl⟩) ?_
        try simp only [pS]
        refine tk 9 rfl (v := ?v173) (.inl ⟨by rfl, ?hy173⟩) ?rest173
        case hy173 => intro w hSw; have hSc := As.fa hSw; go_simp; try with_reducible rfl
        try simp only [pS]
        refine wpAnyH_ready (rs := [10]) (by kernel_rfl) (by simp) ?_
        refine rc rfl fun K hK => ?_
        go_simp
        refine (when_any _ _ _).mono ?_; rintro e ww10 ⟨rfl, hw10⟩; subst hw10
        go_wp2_with fail
        refine hK.out _ _ (by first | exact (uh HS10) | assumption | (dsimp only; assumption)) (fun hHeld2 => ?_)
        clear hK K
        try simp only [pS]
        refine wpAnyH_ready (rs := [12]) (by kernel_rfl) (by simp) ?_
        refine rc rfl fun K hK => ?_
        go_simp
        refine ((uh HID _)).mono ?_; rintro e w11' ⟨rfl, hb11⟩; have HS11 := hide ((uh HS10).below hb11); have BB11 := hide ((uh BB10).trans (hb11.mono (uh BB10).size)); clear hb11
        go_wp2_with fail
        refine hK.out _ _ (by first | exact (uh HS11) | assumption | (dsimp only; assumption)) (fun hHeld2 => ?_)
        clear hK K
        try simp only [pS]
        refine tk 13 rfl (v := ?v174) (.inl ⟨by rfl, ?hy174⟩) ?rest174
        case hy174 => intro w hSw; have hSc := As.fa hSw; go_simp; try with_reducible rfl
        try simp only [pS]
        refine tk 14 rfl (v := undef) (.inr ⟨by rfl, rfl⟩) ?_
        try simp only [pS]
        refine tk 15 rfl (v := undef) (.inr ⟨by rfl, rfl⟩) ?_
        try simp only [pS]
        refine tk 16 rfl (v := undef) (.inr ⟨by rfl, rfl⟩) ?_
        try simp only [pS]
        refine tk 17 rfl (v := undef) (.inr ⟨by rfl, rfl⟩) ?_
        try simp only [pS]
        refine tk 18 rfl (v := undef) (.inr ⟨by rfl, rfl⟩) ?_
        try simp only [pS]
        refine tk 19 rfl (v := undef) (.inr ⟨by rfl, rfl⟩) ?_
        try simp only [pS]
        refine tk 20 rfl (v := undef) (.inr ⟨by rfl, rfl⟩) ?_
        try simp only [pS]
        refine tk 21 rfl (v := ?v182) (.inl ⟨by rfl, ?hy182⟩) ?rest182
        case hy182 => intro w hSw; have hSc := As.fa hSw; go_simp; try with_reducible rfl
        try simp only [pS]
        refine wpAnyH_ready (rs := [22]) (by kernel_rfl) (by simp) ?_
        refine rc rfl fun K hK => ?_
        go_simp
        refine (when_any _ _ _).mono ?_; rintro e ww22 ⟨rfl, hw22⟩; subst hw22
        go_wp2_with fail
        refine hK.out _ _ (by first | exact (uh HS11) | assumption | (dsimp only; assumption)) (fun hHeld2 => ?_)
        clear hK K
        try simp only [pS]
        refine wpAnyH_ready (rs := [32]) (by kernel_rfl) (by simp) ?_
        refine rc rfl fun K hK => ?_
        go_simp
        refine ((uh HDE _ (uh HS11).act)).mono ?_; rintro e w12' ⟨rfl, hb12⟩; have HS12 := hide ((uh HS11).below hb12); have BB12 := hide ((uh BB11).trans (hb12.mono (uh BB11).size)); clear hb12
        go_wp2_with fail
        refine hK.out _ _ (by first | exact (uh HS12) | assumption | (dsimp only; assumption)) (fun hHeld2 => ?_)
        clear hK K
        try simp only [pS]
        refine tk 33 rfl (v := ?v183) (.inl ⟨by rfl, ?hy183⟩) ?rest183
        case hy183 => intro w hSw; have hSc := As.fa hSw; go_simp; try with_reducible rfl
        try simp only [pS]
        refine wpAnyH_ready (rs := [40]) (by kernel_rfl) (by simp) ?_
        refine rc rfl fun K hK => ?_
        go_simp
        refine ((uh HHT _ (uh HS12).act)).mono ?_; rintro e w13' ⟨rfl, hb13⟩; have HS13 := hide ((uh HS12).below hb13); have BB13 := hide ((uh BB12).trans (hb13.mono (uh BB12).size)); clear hb13
        go_wp2_with fail
        refine hK.out _ _ (by first | exact (uh HS13) | assumption | (dsimp only; assumption)) (fun hHeld2 => ?_)
        clear hK K
        try simp only [pS]
        refine tk 41 rfl (v := ?v184) (.inl ⟨by rfl, ?hy184⟩) ?rest184
        case hy184 => intro w hSw; have hSc := As.fa hSw; go_simp; try with_reducible rfl
        try simp only [pS]
        refine tk 42 rfl (v := ?v185) (.inl ⟨by rfl, ?hy185⟩) ?rest185
        case hy185 => intro w hSw; have hSc := As.fa hSw; go_simp; try with_reducible rfl
        try simp only [pS]
        refine wpAnyH_ready (rs := [43]) (by kernel_rfl) (by simp) ?_
        refine rc rfl fun K hK => ?_
        go_simp
        refine (when_any _ _ _).mono ?_; rintro e ww43 ⟨rfl, hw43⟩; subst hw43
        go_wp2_with fail
        refine hK.out _ _ (by first | exact (uh HS13) | assumption | (dsimp only; assumption)) (fun hHeld2 => ?_)
        clear hK K
        try simp only [pS]
        refine wpAnyH_ready (rs := [44]) (by kernel_rfl) (by simp) ?_
        refine rc rfl fun K hK => ?_
        go_simp
        skip
        go_wp2_with fail
        refine hK.out _ _ (by first | exact ((uh HS13).al _) | assumption | (dsimp only; assumption)) (fun hHeld2 => ?_)
        clear hK K
        try simp only [pS]
        refine wpAnyH_ready (rs := [45]) (by kernel_rfl) (by simp) ?_
        refine rc rfl fun K hK => ?_
        go_simp
        refine (or4_any _ _ _ _ _ _ rfl).mono ?_; rintro e ww45 ⟨rfl, hw45⟩; subst hw45
        go_wp2_with fail
        refine hK.out _ _ (by first | exact ((uh HS13).al _) | assumption | (dsimp only; assumption)) (fun hHeld2 => ?_)
        clear hK K
        try simp only [pS]
        refine tk 46 rfl (v := ?v186) (.inl ⟨by rfl, ?hy186⟩) ?rest186
        case hy186 => intro w hSw; have hSc := As.fa hSw; go_simp; try with_reducible rfl
        try simp only [pS]
        refine wpAnyH_done (by kernel_rfl) ?_ _
        go_wp2_with fail
        go_ret
        exact ⟨by rw [uh HWR, uh HV]; rfl, (uh BB13).alloc (uh BB13).size _⟩
      · simp only [Bool.false_and, Bool.true_and, Bool.not_true, Bool.not_false] at HV
        go_wp2_with fail
        refine wp_region_held_drew (S := (fun w' => As w' A x n cap dx dc a nb a.there (.slice da a.there.data.length ec) (.slice la a.there.list.length lc))) (by kernel_rfl) (uh HS9) (fun hHeld => ?_)
        refine tk 0 rfl (v := ?v187) (.inl ⟨by rfl, ?hy187⟩) ?rest187
        case hy187 => intro w hSw; have hSc := As.fa hSw; go_simp; try with_reducible rfl
        try simp only [pS]
        refine tk 2 rfl (v := ?v188) (.inl ⟨by rfl, ?hy188⟩) ?rest188
        case hy188 => intro w hSw; have hSc := As.fa hSw; go_simp; try with_reducible rfl
        try simp only [pS]
        refine tk 11 rfl (v := ?v189) (.inl ⟨by rfl, ?hy189⟩) ?rest189
        case hy189 => intro w hSw; have hSc := As.fa hSw; go_simp; try with_reducible rfl
        try simp only [pS]
        refine tk 23 rfl (v := ?v190) (.inl ⟨by rfl, ?hy190⟩) ?rest190
        case hy190 => intro w hSw; have hSc := As.fa hSw; go_simp; try with_reducible rfl
        try simp only [pS]
        refine tk 24 rfl (v := ?v191) (.inl ⟨by rfl, ?hy191⟩) ?rest191
        case hy191 => intro w hSw; have hSc := As.fa hSw; go_simp; try with_reducible rfl
        try simp only [pS]
        refine tk 25 rfl (v := ?v192) (.inl ⟨by rfl, ?hy192⟩) ?rest192
        case hy192 => intro w hSw; have hSc := As.fa hSw; go_simp; try with_reducible rfl
        try simp only [pS]
        refine tk 26 rfl (v := ?v193) (.inl ⟨by rfl, ?hy193⟩) ?rest193
        case hy193 => intro w hSw; have hSc := As.fa hSw; go_simp; try with_reducible rfl
        try simp only [pS]
        refine tk 27 rfl (v := ?v194) (.inl ⟨by rfl, ?hy194⟩) ?rest194
        case hy194 => intro w hSw; have hSc := As.fa hSw; go_simp; try with_reducible rfl
        try simp only [pS]
        refine tk 28 rfl (v := ?v195) (.inl ⟨by rfl, ?hy195⟩) ?rest195
        case hy195 => intro w hSw; have hSc := As.fa hSw; go_simp; try with_reducible rfl
        try simp only [pS]
        refine tk 29 rfl (v := ?v196) (.inl ⟨by rfl, ?hy196⟩) ?rest196
        case hy196 => intro w hSw; have hSc := As.fa hSw; go_simp; try with_reducible rfl
        try simp only [pS]
        refine tk 30 rfl (v := ?v197) (.inl ⟨by rfl, ?hy197⟩) ?rest197
        case hy197 => intro w hSw; have hSc := As.fa hSw; go_simp; try with_reducible rfl
        try simp only [pS]
        refine tk 31 rfl (v := ?v198) (.inl ⟨by rfl, ?hy198⟩) ?rest198
        case hy198 => intro w hSw; have hSc := As.fa hSw; go_simp; try with_reducible rfl
        try simp only [pS]
        refine tk 34 rfl (v := ?v199) (.inl ⟨by rfl, ?hy199⟩) ?rest199
        case hy199 => intro w hSw; have hSc := As.fa hSw; go_simp; try with_reducible rfl
        try simp only [pS]
        refine tk 35 rfl (v := ?v200) (.inl ⟨by rfl, ?hy200⟩) ?rest200
        case hy200 => intro w hSw; have hSc := As.fa hSw; go_simp; try with_reducible rfl
        try simp only [pS]
        refine tk 36 rfl (v := ?v201) (.inl ⟨by rfl, ?hy201⟩) ?rest201
        case hy201 => intro w hSw; have hSc := As.fa hSw; go_simp; try with_reducible rfl
        try simp only [pS]
        refine tk 37 rfl (v := ?v202) (.inl ⟨by rfl, ?hy202⟩) ?rest202
        case hy202 => intro w hSw; have hSc := As.fa hSw; go_simp; try with_reducible rfl
        try simp only [pS]
        refine tk 38 rfl (v := ?v203) (.inl ⟨by rfl, ?hy203⟩) ?rest203
        case hy203 => intro w hSw; have hSc := As.fa hSw; go_simp; try with_reducible rfl
        try simp only [pS]
        refine tk 39 rfl (v := ?v204) (.inl ⟨by rfl, ?hy204⟩) ?rest204
        case hy204 => intro w hSw; have hSc := As.fa hSw; go_simp; try with_reducible rfl
        try simp only [pS]
        refine wpAnyH_ready (rs := [1]) (by kernel_rfl) (by simp) ?_
        refine rc rfl fun K hK => ?_
        go_simp
        refine (when_any _ _ _).mono ?_; rintro e ww1 ⟨rfl, hw1⟩; subst hw1
        go_wp2_with fail
        refine hK.out _ _ (by first | exact (uh HS9) | assumption | (dsimp only; assumption)) (fun hHeld2 => ?_)
        clear hK K
        try simp only [pS]
        refine wpAnyH_ready (rs := [3]) (by kernel_rfl) (by simp) ?_
        refine rc rfl fun K hK => ?_
        go_simp
        refine ((uh HIN _)).mono ?_; rintro e w10' ⟨rfl, hb10⟩; have HS10 := hide ((uh HS9).below hb10); have BB10 := hide ((uh BB9).trans (hb10.mono (uh BB9).size)); clear hb10
        go_wp2_with fail
        refine hK.out _ _ (by first | exact (uh HS10) | assumption | (dsimp only; assumption)) (fun hHeld2 => ?_)
        clear hK K
        try simp only [pS]
        refine tk 4 rfl (v := ?v205) (.inl ⟨by rfl, ?hy205⟩) ?rest205
        case hy205 => intro w hSw; have hSc := As.fa hSw; go_simp; try with_reducible rfl
        try simp only [pS]
        refine tk 5 rfl (v := ?v206) (.inl ⟨by rfl, ?hy206⟩) ?rest206
        case hy206 => intro w hSw; have hSc := As.fa hSw; go_simp; try with_reducible rfl
        try simp only [pS]
        refine tk 6 rfl (v := undef) (.inr ⟨by rfl, rfl⟩) ?_
        try simp only [pS]
        refine tk 7 rfl (v := undef) (.inr ⟨by rfl, rfl⟩) ?_
        try simp only [pS]
        refine tk 8 rfl (v := undef) (.inr ⟨by rfl, rfl⟩) ?_
        try simp only [pS]
        refine tk 9 rfl (v := ?v210) (.inl ⟨by rfl, ?hy210⟩) ?rest210
        case hy210 => intro w hSw; have hSc := As.fa hSw; go_simp; try with_reducible rfl
        try simp only [pS]
        refine wpAnyH_ready (rs := [10]) (by kernel_rfl) (by simp) ?_
        refine rc rfl fun K hK => ?_
        go_simp
        refine (when_any _ _ _).mono ?_; rintro e ww10 ⟨rfl, hw10⟩; subst hw10
        go_wp2_with fail
        refine hK.out _ _ (by first | exact (uh HS10) | assumption | (dsimp only; assumption)) (fun hHeld2 => ?_)
        clear hK K
        try simp only [pS]
        refine wpAnyH_ready (rs := [12]) (by kernel_rfl) (by simp) ?_
        refine rc rfl fun K hK => ?_
        go_simp
        refine ((uh HID _)).mono ?_; rintro e w11' ⟨rfl, hb11⟩; have HS11 := hide ((uh HS10).below hb11); have BB11 := hide ((uh BB10).trans (hb11.mono (uh BB10).size)); clear hb11
        go_wp2_with fail
        refine hK.out _ _ (by first | exact (uh HS11) | assumption | (dsimp only; assumption)) (fun hHeld2 => ?_)
        clear hK K
        try simp only [pS]
        refine tk 13 rfl (v := ?v211) (.inl ⟨by rfl, ?hy211⟩) ?rest211
        case hy211 => intro w hSw; have hSc := As.fa hSw; go_simp; try with_reducible rfl
        try simp only [pS]
        refine tk 14 rfl (v := ?v212) (.inl ⟨by rfl, ?hy212⟩) ?rest212
        case hy212 => intro w hSw; have hSc := As.fa hSw; go_simp; try with_reducible rfl
        try simp only [pS]
        refine tk 15 rfl (v := ?v213) (.inl ⟨by rfl, ?hy213⟩) ?rest213
        case hy213 => intro w hSw; have hSc := As.fa hSw; go_simp; try with_reducible rfl
        try simp only [pS]
        refine tk 16 rfl (v := ?v214) (.inl ⟨by rfl, ?hy214⟩) ?rest214
        case hy214 => intro w hSw; have hSc := As.fa hSw; go_simp; try with_reducible rfl
        try simp only [pS]
        refine tk 17 rfl (v := ?v215) (.inl ⟨by rfl, ?hy215⟩) ?rest215
        case hy215 => intro w hSw; have hSc := As.fa hSw; go_simp; try with_reducible rfl
        try simp only [pS]
        refine tk 18 rfl (v := ?v216) (.inl ⟨by rfl, ?hy216⟩) ?rest216
        case hy216 => intro w hSw; have hSc := As.fa hSw; go_simp; try with_reducible rfl
        try simp only [pS]
        refine tk 19 rfl (v := ?v217) (.inl ⟨by rfl, ?hy217⟩) ?rest217
        case hy217 => intro w hSw; have hSc := As.fa hSw; go_simp; try with_reducible rfl
        try simp only [pS]
        refine wpAnyH_ready (rs := [20]) (by kernel_rfl) (by simp) ?_
        refine rc rfl fun K hK => ?_
        go_simp
        refine ((uh HBU _ (uh HS11).act)).mono ?_; rintro e w12' ⟨rfl, hb12⟩; have HS12 := hide ((uh HS11).below hb12); have BB12 := hide ((uh BB11).trans (hb12.mono (uh BB11).size)); clear hb12
        go_wp2_with fail
        refine hK.out _ _ (by first | exact (uh HS12) | assumption | (dsimp only; assumption)) (fun hHeld2 => ?_)
        clear hK K
        try simp only [pS]
        refine tk 21 rfl (v := ?v218) (.inl ⟨by rfl, ?hy218⟩) ?rest218
        case hy218 => intro w hSw; have hSc := As.fa hSw; go_simp; try with_reducible rfl
        try simp only [pS]
        refine wpAnyH_ready (rs := [22]) (by kernel_rfl) (by simp) ?_
        refine rc rfl fun K hK => ?_
        go_simp
        refine (when_any _ _ _).mono ?_; rintro e ww22 ⟨rfl, hw22⟩; subst hw22
        go_wp2_with fail
        refine hK.out _ _ (by first | exact (uh HS12) | assumption | (dsimp only; assumption)) (fun hHeld2 => ?_)
        clear hK K
        try simp only [pS]
        refine wpAnyH_ready (rs := [32]) (by kernel_rfl) (by simp) ?_
        refine rc rfl fun K hK => ?_
        go_simp
        refine ((uh HDE _ (uh HS12).act)).mono ?_; rintro e w13' ⟨rfl, hb13⟩; have HS13 := hide ((uh HS12).below hb13); have BB13 := hide ((uh BB12).trans (hb13.mono (uh BB12).size)); clear hb13
        go_wp2_with fail
        refine hK.out _ _ (by first | exact (uh HS13) | assumption | (dsimp only; assumption)) (fun hHeld2 => ?_)
        clear hK K
        try simp only [pS]
        refine tk 33 rfl (v := ?v219) (.inl ⟨by rfl, ?hy219⟩) ?rest219
        case hy219 => intro w hSw; have hSc := As.fa hSw; go_simp; try with_reducible rfl
        try simp only [pS]
        refine wpAnyH_ready (rs := [40]) (by kernel_rfl) (by simp) ?_
        refine rc rfl fun K hK => ?_
        go_simp
        refine ((uh HHT _ (uh HS13).act)).mono ?_; rintro e w14' ⟨rfl, hb14⟩; have HS14 := hide ((uh HS13).below hb14); have BB14 := hide ((uh BB13).trans (hb14.mono (uh BB13).size)); clear hb14
        go_wp2_with fail
        refine hK.out _ _ (by first | exact (uh HS14) | assumption | (dsimp only; assumption)) (fun hHeld2 => ?_)
        clear hK K
        try simp only [pS]
        refine tk 41 rfl (v := ?v220) (.inl ⟨by rfl, ?hy220⟩) ?rest220
        case hy220 => intro w hSw; have hSc := As.fa hSw; go_simp; try with_reducible rfl
        try simp only [pS]
        refine tk 42 rfl (v := ?v221) (.inl ⟨by rfl, ?hy221⟩) ?rest221
        case hy221 => intro w hSw; have hSc := As.fa hSw; go_simp; try with_reducible rfl
        try simp only [pS]
        refine wpAnyH_ready (rs := [43]) (by kernel_rfl) (by simp) ?_
        refine rc rfl fun K hK => ?_
        go_simp
        refine (when_any _ _ _).mono ?_; rintro e ww43 ⟨rfl, hw43⟩; subst hw43
        go_wp2_with fail
        refine hK.out _ _ (by first | exact (uh HS14) | assumption | (dsimp only; assumption)) (fun hHeld2 => ?_)
        clear hK K
        try simp only [pS]
        refine wpAnyH_ready (rs := [44]) (by kernel_rfl) (by simp) ?_
        refine rc rfl fun K hK => ?_
        go_simp
        skip
        go_wp2_with fail
        refine hK.out _ _ (by first | exact ((uh HS14).al _) | assumption | (dsimp only; assumption)) (fun hHeld2 => ?_)
        clear hK K
        try simp only [pS]
        refine wpAnyH_ready (rs := [45]) (by kernel_rfl) (by simp) ?_
        refine rc rfl fun K hK => ?_
        go_simp
        refine (or4_any _ _ _ _ _ _ rfl).mono ?_; rintro e ww45 ⟨rfl, hw45⟩; subst hw45
        go_wp2_with fail
        refine hK.out _ _ (by first | exact ((uh HS14).al _) | assumption | (dsimp only; assumption)) (fun hHeld2 => ?_)
        clear hK K
        try simp only [pS]
        refine tk 46 rfl (v := ?v222) (.inl ⟨by rfl, ?hy222⟩) ?rest222
        case hy222 => intro w hSw; have hSc := As.fa hSw; go_simp; try with_reducible rfl
        try simp only [pS]
        refine wpAnyH_done (by kernel_rfl) ?_ _
        go_wp2_with fail
        go_ret
        exact ⟨by rw [uh HWR, uh HV]; rfl, (uh BB14).alloc (uh BB14).size _⟩
end Go.Proofs.YtidhceebafmlkaaGreatDoor.Ca
