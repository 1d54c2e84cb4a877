import Derived.Test.YtidhceebafmlkaaGreatDoorCaLink
import Derived.Test.YtidhceebafmlkaaGreatDoorCaFill
namespace Go.Proofs.YtidhceebafmlkaaGreatDoor.Ca
open Go.RowKit Cu Tr Pm Pt
theorem Ot.room {w : World} {B : Nat} {v : Value} {ns : List Nd} (h : Ot w B v ns) {R : Nat} (hR : R < B) (a b : Value) : Ot ((w.setCell ⟨R, 0, none⟩ a).setCell ⟨R, 1, none⟩ b) R v ns := by
  obtain ⟨l, h1, h2, h3, h4⟩ := h
  have q : ∀ k, B ≤ k → ((w.setCell ⟨R, 0, none⟩ a).setCell ⟨R, 1, none⟩ b).heap[k]? = w.heap[k]? := fun k hk => by
    rw [heap_setCell_other _ ⟨R, _, none⟩ _ _ (show k ≠ R by omega), heap_setCell_other _ ⟨R, _, none⟩ _ _ (show k ≠ R by omega)]
  exact ⟨l, own_base (own_keep h1 fun k hk => q k (h1.lt k hk).1) (Nat.le_of_lt hR), fun x hx => ⟨own_base (own_keep (h2 x hx).1 fun k hk => q k ((h2 x hx).1.lt k hk).1) (Nat.le_of_lt hR), own_base (own_keep (h2 x hx).2 fun k hk => q k ((h2 x hx).2.lt k hk).1) (Nat.le_of_lt hR)⟩, h3, h4⟩
set_option maxRecDepth 100000 in
set_option maxHeartbeats 4000000 in
theorem rmdir_any (A : Nat) (x : Option Addr) (n cap : Nat) (dx : Option Addr) (dc : Nat) (a : Ac) (w : World) (h : At w A x n cap dx dc a) (hp : Okp a.ns a.p) :
    Calls Tryz.prog 125 #[.pointer (some ⟨A, 0, none⟩)] w (DoR a.rmdir w) := by
  obtain ⟨pd, hpd, hdr⟩ := hp.dir
  obtain ⟨pm, hpm, hpn, -⟩ := hp.node h.chk
  obtain ⟨b1, hb1⟩ : ∃ b, b = nameless a.p := ⟨_, rfl⟩
  obtain ⟨b2, hb2⟩ : ∃ b, b = isN a.here := ⟨_, rfl⟩
  obtain ⟨b3, hb3⟩ : ∃ b, b = isD a.here := ⟨_, rfl⟩
  have HNM : Hid (∀ W, At W A x n cap dx dc a → Calls Tryz.prog 189 #[.agg (pv a.p)] W fun e w' => e = .returned (.bool b1) ∧ Below W.heap.size W w') := fun W _ => by rw [hb1]; exact isNameless_any a.p W
  have HH : Hid (∀ W, At W A x n cap dx dc a → Calls Tryz.prog 186 #[.pointer (some ⟨A, 0, none⟩)] W fun e w' => (∃ v, e = .returned v ∧ IsNd w' v a.here) ∧ Below W.heap.size W w') := fun W hW => here_any A x n cap dx dc a pm W hW hpm hpn
  have HIN : Hid (∀ v W, IsNd W v a.here → Calls Tryz.prog 190 #[v] W fun e w' => e = .returned (.bool b2) ∧ Below W.heap.size W w') := fun v W hW => by rw [hb2]; exact isNone_any v a.here W hW
  have HID : Hid (∀ v W, IsNd W v a.here → Calls Tryz.prog 197 #[v] W fun e w' => e = .returned (.bool b3) ∧ Below W.heap.size W w') := fun v W hW => by rw [hb3]; exact isDir_any' v a.here W hW
  have HMD : Hid (∀ W, At W A x n cap dx dc a → Calls Tryz.prog 199 #[.pointer (some ⟨A, 0, none⟩), .int .i64 a.p.dir] W fun e w' => e = .returned (.int .i64 (a.mayWrite a.p.dir)) ∧ Below W.heap.size W w') := fun W hW => by rw [hpd]; exact mayWrite_any A x n cap dx dc a pd W hW hdr.2.1
  have HBU : Hid (∀ W, At W A x n cap dx dc a → Calls Tryz.prog 198 #[.pointer (some ⟨A, 0, none⟩), .int .i64 a.p.node] W fun e w' => e = .returned (.bool (a.isBusy a.p.node)) ∧ Below W.heap.size W w') := fun W hW => by rw [hpm]; exact isBusy_any A x n cap dx dc a pm W hW hpn
  have HRM := hide (fun W (hW : At W A x n cap dx dc a) => removed_any A x n cap dx dc a W hW hp)
  clear hp hpd hdr hpm hpn
  obtain ⟨er, hER⟩ : ∃ er, Hid (er = orP [wh (nameless a.p) 14, wh (isN a.here) 6, wh (!isD a.here) 9, wh (a.isBusy a.p.node) 14, a.mayWrite a.p.dir]) := ⟨_, rfl⟩
  obtain ⟨RR, hRR⟩ : ∃ RR, RR = a.rmdir := ⟨_, rfl⟩
  rw [← hRR]
  have HK : Hid (RR = if er ≠ 0 then no er else yes a.now a.removed) := by show _ = _; rw [hRR, uh hER]; rfl
  clear hRR
  obtain ⟨w1, hw1⟩ : ∃ w1, w1 = w.alloc (.cells zTree 24) := ⟨_, rfl⟩
  have hA1 : At w1 A x n cap dx dc a := by rw [hw1]; exact h.al _
  have HA0 : Hid (At w1.drew A x n cap dx dc a) := hA1.dr
  have BB0 : Hid (Below w1.heap.size w1 w1.drew) := below_drew w1 1
  have HW1 := hide hw1
  clear h hw1 hA1
  go_enter Tryz.func125, Tryz.ntmps125
  go_upto_region 1 with fail
  rw [← uh HW1]
  go_cut [4] (fun u wx => u = .int .i64 er ∧ Hid (At wx A x n cap dx dc a) ∧ Hid (Below w1.heap.size w1 wx))
  case first =>
    rw [← hb1, ← hb2, ← hb3] at hER
    clear hb1 hb2 hb3
    go_wp2_with fail
    refine wp_region_held_drew (S := (fun w' => At w' A x n cap dx dc a)) (by kernel_rfl) (uh HA0) (fun hHeld => ?_)
    refine tk 0 rfl (v := ?v43) (.inl ⟨by rfl, ?hy43⟩) ?rest43
    case hy43 => intro w hSw; have hSc := At.cells hSw; go_simp; try with_reducible rfl
    try simp only [pS]
    refine tk 1 rfl (v := ?v44) (.inl ⟨by rfl, ?hy44⟩) ?rest44
    case hy44 => intro w hSw; have hSc := At.cells hSw; go_simp; try with_reducible rfl
    try simp only [pS]
    refine tk 2 rfl (v := ?v45) (.inl ⟨by rfl, ?hy45⟩) ?rest45
    case hy45 => intro w hSw; have hSc := At.cells hSw; go_simp; try with_reducible rfl
    try simp only [pS]
    refine tk 3 rfl (v := ?v46) (.inl ⟨by rfl, ?hy46⟩) ?rest46
    case hy46 => intro w hSw; have hSc := At.cells hSw; go_simp; try with_reducible rfl
    try simp only [pS]
    refine tk 6 rfl (v := ?v47) (.inl ⟨by rfl, ?hy47⟩) ?rest47
    case hy47 => intro w hSw; have hSc := At.cells hSw; go_simp; try with_reducible rfl
    try simp only [pS]
    refine tk 10 rfl (v := ?v48) (.inl ⟨by rfl, ?hy48⟩) ?rest48
    case hy48 => intro w hSw; have hSc := At.cells hSw; go_simp; try with_reducible rfl
    try simp only [pS]
    refine tk 15 rfl (v := ?v49) (.inl ⟨by rfl, ?hy49⟩) ?rest49
    case hy49 => intro w hSw; have hSc := At.cells hSw; go_simp; try with_reducible rfl
    try simp only [pS]
    refine tk 16 rfl (v := ?v50) (.inl ⟨by rfl, ?hy50⟩) ?rest50
    case hy50 => intro w hSw; have hSc := At.cells hSw; go_simp; try with_reducible rfl
    try simp only [pS]
    refine tk 17 rfl (v := ?v51) (.inl ⟨by rfl, ?hy51⟩) ?rest51
    case hy51 => intro w hSw; have hSc := At.cells hSw; go_simp; try with_reducible rfl
    try simp only [pS]
    refine tk 18 rfl (v := ?v52) (.inl ⟨by rfl, ?hy52⟩) ?rest52
    case hy52 => intro w hSw; have hSc := At.cells hSw; go_simp; try with_reducible rfl
    try simp only [pS]
    refine tk 19 rfl (v := ?v53) (.inl ⟨by rfl, ?hy53⟩) ?rest53
    case hy53 => intro w hSw; have hSc := At.cells hSw; go_simp; try with_reducible rfl
    try simp only [pS]
    refine tk 20 rfl (v := ?v54) (.inl ⟨by rfl, ?hy54⟩) ?rest54
    case hy54 => intro w hSw; have hSc := At.cells hSw; go_simp; try with_reducible rfl
    try simp only [pS]
    refine tk 23 rfl (v := ?v55) (.inl ⟨by rfl, ?hy55⟩) ?rest55
    case hy55 => intro w hSw; have hSc := At.cells hSw; go_simp; try with_reducible rfl
    try simp only [pS]
    refine tk 24 rfl (v := ?v56) (.inl ⟨by rfl, ?hy56⟩) ?rest56
    case hy56 => intro w hSw; have hSc := At.cells hSw; go_simp; try with_reducible rfl
    try simp only [pS]
    refine tk 25 rfl (v := ?v57) (.inl ⟨by rfl, ?hy57⟩) ?rest57
    case hy57 => intro w hSw; have hSc := At.cells hSw; go_simp; try with_reducible rfl
    try simp only [pS]
    refine tk 26 rfl (v := ?v58) (.inl ⟨by rfl, ?hy58⟩) ?rest58
    case hy58 => intro w hSw; have hSc := At.cells hSw; go_simp; try with_reducible rfl
    try simp only [pS]
    refine tk 27 rfl (v := ?v59) (.inl ⟨by rfl, ?hy59⟩) ?rest59
    case hy59 => intro w hSw; have hSc := At.cells hSw; go_simp; try with_reducible rfl
    try simp only [pS]
    refine tk 28 rfl (v := ?v60) (.inl ⟨by rfl, ?hy60⟩) ?rest60
    case hy60 => intro w hSw; have hSc := At.cells hSw; go_simp; try with_reducible rfl
    try simp only [pS]
    refine wpAnyH_ready (rs := [4]) (by kernel_rfl) (by simp) ?_
    refine rc rfl fun K hK => ?_
    go_simp
    refine (uh HNM _ (uh HA0)).mono ?_; rintro e w1 ⟨rfl, hb1⟩; have HA1 := hide ((uh HA0).below hb1); have BB1 := hide ((uh BB0).trans (hb1.mono (uh BB0).size)); clear hb1
    go_wp2_with fail
    refine hK.out _ _ (by first | exact (uh HA1) | assumption | (dsimp only; assumption)) (fun hHeld2 => ?_)
    clear hK K
    try simp only [pS]
    refine wpAnyH_ready (rs := [5]) (by kernel_rfl) (by simp) ?_
    refine rc rfl fun K hK => ?_
    go_simp
    refine (when_any _ _ _).mono ?_; rintro e ww5 ⟨rfl, hw5⟩; subst hw5
    go_wp2_with fail
    refine hK.out _ _ (by first | exact (uh HA1) | assumption | (dsimp only; assumption)) (fun hHeld2 => ?_)
    clear hK K
    try simp only [pS]
    refine wpAnyH_ready (rs := [7]) (by kernel_rfl) (by simp) ?_
    refine rc rfl fun K hK => ?_
    go_simp
    refine (uh HH _ (uh HA1)).mono ?_; rintro e w2 ⟨⟨v2, rfl, hnd2⟩, hb2⟩; have HN2 := hide hnd2; have HA2 := hide ((uh HA1).below hb2); have BB2 := hide ((uh BB1).trans (hb2.mono (uh BB1).size)); clear hb2; clear hnd2
    go_wp2_with fail
    refine hK.out _ _ (by first | exact (uh HA2) | assumption | (dsimp only; assumption)) (fun hHeld2 => ?_)
    clear hK K
    try simp only [pS]
    refine wpAnyH_ready (rs := [8]) (by kernel_rfl) (by simp) ?_
    refine rc rfl fun K hK => ?_
    go_simp
    refine (uh HIN _ _ (uh HN2)).mono ?_; rintro e w3 ⟨rfl, hb3⟩; have HA3 := hide ((uh HA2).below hb3); have BB3 := hide ((uh BB2).trans (hb3.mono (uh BB2).size)); clear hb3
    go_wp2_with fail
    refine hK.out _ _ (by first | exact (uh HA3) | assumption | (dsimp only; assumption)) (fun hHeld2 => ?_)
    clear hK K
    try simp only [pS]
    refine wpAnyH_ready (rs := [9]) (by kernel_rfl) (by simp) ?_
    refine rc rfl fun K hK => ?_
    go_simp
    refine (when_any _ _ _).mono ?_; rintro e ww9 ⟨rfl, hw9⟩; subst hw9
    go_wp2_with fail
    refine hK.out _ _ (by first | exact (uh HA3) | assumption | (dsimp only; assumption)) (fun hHeld2 => ?_)
    clear hK K
    try simp only [pS]
    refine wpAnyH_ready (rs := [11]) (by kernel_rfl) (by simp) ?_
    refine rc rfl fun K hK => ?_
    go_simp
    refine (uh HH _ (uh HA3)).mono ?_; rintro e w4 ⟨⟨v4, rfl, hnd4⟩, hb4⟩; have HN4 := hide hnd4; have HA4 := hide ((uh HA3).below hb4); have BB4 := hide ((uh BB3).trans (hb4.mono (uh BB3).size)); clear hb4; clear hnd4
    go_wp2_with fail
    refine hK.out _ _ (by first | exact (uh HA4) | assumption | (dsimp only; assumption)) (fun hHeld2 => ?_)
    clear hK K
    try simp only [pS]
    refine wpAnyH_ready (rs := [12]) (by kernel_rfl) (by simp) ?_
    refine rc rfl fun K hK => ?_
    go_simp
    refine (uh HID _ _ (uh HN4)).mono ?_; rintro e w5 ⟨rfl, hb5⟩; have HA5 := hide ((uh HA4).below hb5); have BB5 := hide ((uh BB4).trans (hb5.mono (uh BB4).size)); clear hb5
    go_wp2_with fail
    refine hK.out _ _ (by first | exact (uh HA5) | assumption | (dsimp only; assumption)) (fun hHeld2 => ?_)
    clear hK K
    try simp only [pS]
    refine tk 13 rfl (v := ?v61) (.inl ⟨by rfl, ?hy61⟩) ?rest61
    case hy61 => intro w hSw; have hSc := At.cells hSw; go_simp; try with_reducible rfl
    try simp only [pS]
    refine wpAnyH_ready (rs := [14]) (by kernel_rfl) (by simp) ?_
    refine rc rfl fun K hK => ?_
    go_simp
    refine (when_any _ _ _).mono ?_; rintro e ww14 ⟨rfl, hw14⟩; subst hw14
    go_wp2_with fail
    refine hK.out _ _ (by first | exact (uh HA5) | assumption | (dsimp only; assumption)) (fun hHeld2 => ?_)
    clear hK K
    try simp only [pS]
    refine wpAnyH_ready (rs := [21]) (by kernel_rfl) (by simp) ?_
    refine rc rfl fun K hK => ?_
    go_simp
    refine (uh HBU _ (uh HA5)).mono ?_; rintro e w6 ⟨rfl, hb6⟩; have HA6 := hide ((uh HA5).below hb6); have BB6 := hide ((uh BB5).trans (hb6.mono (uh BB5).size)); clear hb6
    go_wp2_with fail
    refine hK.out _ _ (by first | exact (uh HA6) | assumption | (dsimp only; assumption)) (fun hHeld2 => ?_)
    clear hK K
    try simp only [pS]
    refine wpAnyH_ready (rs := [22]) (by kernel_rfl) (by simp) ?_
    refine rc rfl fun K hK => ?_
    go_simp
    refine (when_any _ _ _).mono ?_; rintro e ww22 ⟨rfl, hw22⟩; subst hw22
    go_wp2_with fail
    refine hK.out _ _ (by first | exact (uh HA6) | assumption | (dsimp only; assumption)) (fun hHeld2 => ?_)
    clear hK K
    try simp only [pS]
    refine wpAnyH_ready (rs := [29]) (by kernel_rfl) (by simp) ?_
    refine rc rfl fun K hK => ?_
    go_simp
    refine (uh HMD _ (uh HA6)).mono ?_; rintro e w7 ⟨rfl, hb7⟩; have HA7 := hide ((uh HA6).below hb7); have BB7 := hide ((uh BB6).trans (hb7.mono (uh BB6).size)); clear hb7
    go_wp2_with fail
    refine hK.out _ _ (by first | exact (uh HA7) | assumption | (dsimp only; assumption)) (fun hHeld2 => ?_)
    clear hK K
    try simp only [pS]
    refine wpAnyH_ready (rs := [30]) (by kernel_rfl) (by simp) ?_
    refine rc rfl fun K hK => ?_
    go_simp
    skip
    go_wp2_with fail
    refine hK.out _ _ (by first | exact ((uh HA7).al _) | assumption | (dsimp only; assumption)) (fun hHeld2 => ?_)
    clear hK K
    try simp only [pS]
    refine wpAnyH_ready (rs := [31]) (by kernel_rfl) (by simp) ?_
    refine rc rfl fun K hK => ?_
    go_simp
    refine (or5_any _ _ _ _ _ _ _ rfl).mono ?_; rintro e ww31 ⟨rfl, hw31⟩; subst hw31
    go_wp2_with fail
    refine hK.out _ _ (by first | exact ((uh HA7).al _) | assumption | (dsimp only; assumption)) (fun hHeld2 => ?_)
    clear hK K
    try simp only [pS]
    refine tk 32 rfl (v := ?v62) (.inl ⟨by rfl, ?hy62⟩) ?rest62
    case hy62 => intro w hSw; have hSc := At.cells hSw; go_simp; try with_reducible rfl
    try simp only [pS]
    refine wpAnyH_done (by kernel_rfl) ?_ _
    go_wp2_with fail
    go_meet
    exact ⟨by rw [uh hER], (uh HA7).al _, (uh BB7).alloc (uh BB7).size _⟩
  case rest =>
    obtain ⟨rfl, HA, HBB⟩ := hcut
    rw [uh HW1] at HBB
    clear HA0 BB0 hER
    by_cases her : er = 0
    · have HK2 : Hid (RR = yes a.now a.removed) := by show _ = _; rw [uh HK, if_neg (fun q => q her)]
      have hern : (er != 0) = false := by simpa using her
      subst her
      clear HK hern
      have HRB : Hid (w.heap.size < wc.heap.size) := by show _ < _; have := (uh HBB).size; simp at this; omega
      have HCP := hide (copy_any (uh HA))
      have HRM2 := hide (uh HRM wc (uh HA))
      clear HCP
      go_wp2_with fail
      refine (uh HRM2).mono ?_
      rintro e w2 ⟨⟨va, vn, vc, rfl, hot⟩, hb2⟩
      have HBW := hide ((uh HBB).trans (hb2.mono (by have := uh HRB; have := (uh HBB).size; omega)))
      obtain ⟨r0, r1, z0, z1⟩ := room_cells (uh HBW)
      have HDF := hide (hot.room (uh HRB) (.slice va vn vc) (.int .i64 a.now))
      have HF := hide (room_below (uh HBW) (.slice va vn vc) (.int .i64 a.now))
      clear hot hb2 HRM2
      go_wp2_with fail
      refine bodyPost_ret (v := .tuple #[.agg #[.slice va vn vc, .int .i64 a.now], .int .i64 0]) (by simp [results, Tryz.results125, go_sem, r0, r1]) rfl ?_
      show DoR RR w _ _
      rw [uh HK2]
      exact ⟨⟨_, rfl, uh HDF⟩, uh HF⟩
    · have HRD := hide (room_cells (uh HBB))
      have HF := hide (room_below (uh HBB) (.slice none 0 0) (.int .i64 0))
      have HK2 : Hid (RR = no er) := by show _ = _; rw [uh HK, if_pos her]
      obtain ⟨r0, r1, z0, z1⟩ := uh HRD
      have hern : (er != 0) = true := by simpa using her
      clear HRD HK HBB HA
      go_wp2_with fail
      refine bodyPost_ret (v := .tuple #[.agg #[.slice none 0 0, .int .i64 0], .int .i64 er]) (by simp [results, Tryz.results125, go_sem, r0, r1]) rfl ?_
      show DoR RR w _ _
      rw [uh HK2]
      exact ⟨⟨_, rfl, ot_nil _ _⟩, uh HF⟩
set_option maxRecDepth 100000 in
set_option maxHeartbeats 4000000 in
theorem unlink_any (A : Nat) (x : Option Addr) (n cap : Nat) (dx : Option Addr) (dc : Nat) (a : Ac) (w : World) (h : At w A x n cap dx dc a) (hp : Okp a.ns a.p) :
    Calls Tryz.prog 126 #[.pointer (some ⟨A, 0, none⟩)] w (DoR a.unlink w) := by
  obtain ⟨pd, hpd, hdr⟩ := hp.dir
  obtain ⟨pm, hpm, hpn, -⟩ := hp.node h.chk
  obtain ⟨b1, hb1⟩ : ∃ b, b = nameless a.p := ⟨_, rfl⟩
  obtain ⟨b2, hb2⟩ : ∃ b, b = isN a.here := ⟨_, rfl⟩
  obtain ⟨b3, hb3⟩ : ∃ b, b = isD a.here := ⟨_, rfl⟩
  have HNM : Hid (∀ W, At W A x n cap dx dc a → Calls Tryz.prog 189 #[.agg (pv a.p)] W fun e w' => e = .returned (.bool b1) ∧ Below W.heap.size W w') := fun W _ => by rw [hb1]; exact isNameless_any a.p W
  have HH : Hid (∀ W, At W A x n cap dx dc a → Calls Tryz.prog 186 #[.pointer (some ⟨A, 0, none⟩)] W fun e w' => (∃ v, e = .returned v ∧ IsNd w' v a.here) ∧ Below W.heap.size W w') := fun W hW => here_any A x n cap dx dc a pm W hW hpm hpn
  have HIN : Hid (∀ v W, IsNd W v a.here → Calls Tryz.prog 190 #[v] W fun e w' => e = .returned (.bool b2) ∧ Below W.heap.size W w') := fun v W hW => by rw [hb2]; exact isNone_any v a.here W hW
  have HID : Hid (∀ v W, IsNd W v a.here → Calls Tryz.prog 197 #[v] W fun e w' => e = .returned (.bool b3) ∧ Below W.heap.size W w') := fun v W hW => by rw [hb3]; exact isDir_any' v a.here W hW
  have HMD : Hid (∀ W, At W A x n cap dx dc a → Calls Tryz.prog 199 #[.pointer (some ⟨A, 0, none⟩), .int .i64 a.p.dir] W fun e w' => e = .returned (.int .i64 (a.mayWrite a.p.dir)) ∧ Below W.heap.size W w') := fun W hW => by rw [hpd]; exact mayWrite_any A x n cap dx dc a pd W hW hdr.2.1
  have HRM := hide (fun W (hW : At W A x n cap dx dc a) => removed_any A x n cap dx dc a W hW hp)
  clear hp hpd hdr hpm hpn
  obtain ⟨er, hER⟩ : ∃ er, Hid (er = orP [wh (nameless a.p) 8, wh (isN a.here) 6, wh (isD a.here) 8, a.mayWrite a.p.dir]) := ⟨_, rfl⟩
  obtain ⟨RR, hRR⟩ : ∃ RR, RR = a.unlink := ⟨_, rfl⟩
  rw [← hRR]
  have HK : Hid (RR = if er ≠ 0 then no er else yes a.now a.removed) := by show _ = _; rw [hRR, uh hER]; rfl
  clear hRR
  obtain ⟨w1, hw1⟩ : ∃ w1, w1 = w.alloc (.cells zTree 24) := ⟨_, rfl⟩
  have hA1 : At w1 A x n cap dx dc a := by rw [hw1]; exact h.al _
  have HA0 : Hid (At w1.drew A x n cap dx dc a) := hA1.dr
  have BB0 : Hid (Below w1.heap.size w1 w1.drew) := below_drew w1 1
  have HW1 := hide hw1
  clear h hw1 hA1
  go_enter Tryz.func126, Tryz.ntmps126
  go_upto_region 1 with fail
  rw [← uh HW1]
  go_cut [4] (fun u wx => u = .int .i64 er ∧ Hid (At wx A x n cap dx dc a) ∧ Hid (Below w1.heap.size w1 wx))
  case first =>
    rw [← hb1, ← hb2, ← hb3] at hER
    clear hb1 hb2 hb3
    go_wp2_with fail
    refine wp_region_held_drew (S := (fun w' => At w' A x n cap dx dc a)) (by kernel_rfl) (uh HA0) (fun hHeld => ?_)
    refine tk 0 rfl (v := ?v63) (.inl ⟨by rfl, ?hy63⟩) ?rest63
    case hy63 => intro w hSw; have hSc := At.cells hSw; go_simp; try with_reducible rfl
    try simp only [pS]
    refine tk 1 rfl (v := ?v64) (.inl ⟨by rfl, ?hy64⟩) ?rest64
    case hy64 => intro w hSw; have hSc := At.cells hSw; go_simp; try with_reducible rfl
    try simp only [pS]
    refine tk 2 rfl (v := ?v65) (.inl ⟨by rfl, ?hy65⟩) ?rest65
    case hy65 => intro w hSw; have hSc := At.cells hSw; go_simp; try with_reducible rfl
    try simp only [pS]
    refine tk 3 rfl (v := ?v66) (.inl ⟨by rfl, ?hy66⟩) ?rest66
    case hy66 => intro w hSw; have hSc := At.cells hSw; go_simp; try with_reducible rfl
    try simp only [pS]
    refine tk 6 rfl (v := ?v67) (.inl ⟨by rfl, ?hy67⟩) ?rest67
    case hy67 => intro w hSw; have hSc := At.cells hSw; go_simp; try with_reducible rfl
    try simp only [pS]
    refine tk 10 rfl (v := ?v68) (.inl ⟨by rfl, ?hy68⟩) ?rest68
    case hy68 => intro w hSw; have hSc := At.cells hSw; go_simp; try with_reducible rfl
    try simp only [pS]
    refine tk 14 rfl (v := ?v69) (.inl ⟨by rfl, ?hy69⟩) ?rest69
    case hy69 => intro w hSw; have hSc := At.cells hSw; go_simp; try with_reducible rfl
    try simp only [pS]
    refine tk 15 rfl (v := ?v70) (.inl ⟨by rfl, ?hy70⟩) ?rest70
    case hy70 => intro w hSw; have hSc := At.cells hSw; go_simp; try with_reducible rfl
    try simp only [pS]
    refine tk 16 rfl (v := ?v71) (.inl ⟨by rfl, ?hy71⟩) ?rest71
    case hy71 => intro w hSw; have hSc := At.cells hSw; go_simp; try with_reducible rfl
    try simp only [pS]
    refine tk 17 rfl (v := ?v72) (.inl ⟨by rfl, ?hy72⟩) ?rest72
    case hy72 => intro w hSw; have hSc := At.cells hSw; go_simp; try with_reducible rfl
    try simp only [pS]
    refine tk 18 rfl (v := ?v73) (.inl ⟨by rfl, ?hy73⟩) ?rest73
    case hy73 => intro w hSw; have hSc := At.cells hSw; go_simp; try with_reducible rfl
    try simp only [pS]
    refine tk 19 rfl (v := ?v74) (.inl ⟨by rfl, ?hy74⟩) ?rest74
    case hy74 => intro w hSw; have hSc := At.cells hSw; go_simp; try with_reducible rfl
    try simp only [pS]
    refine wpAnyH_ready (rs := [4]) (by kernel_rfl) (by simp) ?_
    refine rc rfl fun K hK => ?_
    go_simp
    refine (uh HNM _ (uh HA0)).mono ?_; rintro e w1 ⟨rfl, hb1⟩; have HA1 := hide ((uh HA0).below hb1); have BB1 := hide ((uh BB0).trans (hb1.mono (uh BB0).size)); clear hb1
    go_wp2_with fail
    refine hK.out _ _ (by first | exact (uh HA1) | assumption | (dsimp only; assumption)) (fun hHeld2 => ?_)
    clear hK K
    try simp only [pS]
    refine wpAnyH_ready (rs := [5]) (by kernel_rfl) (by simp) ?_
    refine rc rfl fun K hK => ?_
    go_simp
    refine (when_any _ _ _).mono ?_; rintro e ww5 ⟨rfl, hw5⟩; subst hw5
    go_wp2_with fail
    refine hK.out _ _ (by first | exact (uh HA1) | assumption | (dsimp only; assumption)) (fun hHeld2 => ?_)
    clear hK K
    try simp only [pS]
    refine wpAnyH_ready (rs := [7]) (by kernel_rfl) (by simp) ?_
    refine rc rfl fun K hK => ?_
    go_simp
    refine (uh HH _ (uh HA1)).mono ?_; rintro e w2 ⟨⟨v2, rfl, hnd2⟩, hb2⟩; have HN2 := hide hnd2; have HA2 := hide ((uh HA1).below hb2); have BB2 := hide ((uh BB1).trans (hb2.mono (uh BB1).size)); clear hb2; clear hnd2
    go_wp2_with fail
    refine hK.out _ _ (by first | exact (uh HA2) | assumption | (dsimp only; assumption)) (fun hHeld2 => ?_)
    clear hK K
    try simp only [pS]
    refine wpAnyH_ready (rs := [8]) (by kernel_rfl) (by simp) ?_
    refine rc rfl fun K hK => ?_
    go_simp
    refine (uh HIN _ _ (uh HN2)).mono ?_; rintro e w3 ⟨rfl, hb3⟩; have HA3 := hide ((uh HA2).below hb3); have BB3 := hide ((uh BB2).trans (hb3.mono (uh BB2).size)); clear hb3
    go_wp2_with fail
    refine hK.out _ _ (by first | exact (uh HA3) | assumption | (dsimp only; assumption)) (fun hHeld2 => ?_)
    clear hK K
    try simp only [pS]
    refine wpAnyH_ready (rs := [9]) (by kernel_rfl) (by simp) ?_
    refine rc rfl fun K hK => ?_
    go_simp
    refine (when_any _ _ _).mono ?_; rintro e ww9 ⟨rfl, hw9⟩; subst hw9
    go_wp2_with fail
    refine hK.out _ _ (by first | exact (uh HA3) | assumption | (dsimp only; assumption)) (fun hHeld2 => ?_)
    clear hK K
    try simp only [pS]
    refine wpAnyH_ready (rs := [11]) (by kernel_rfl) (by simp) ?_
    refine rc rfl fun K hK => ?_
    go_simp
    refine (uh HH _ (uh HA3)).mono ?_; rintro e w4 ⟨⟨v4, rfl, hnd4⟩, hb4⟩; have HN4 := hide hnd4; have HA4 := hide ((uh HA3).below hb4); have BB4 := hide ((uh BB3).trans (hb4.mono (uh BB3).size)); clear hb4; clear hnd4
    go_wp2_with fail
    refine hK.out _ _ (by first | exact (uh HA4) | assumption | (dsimp only; assumption)) (fun hHeld2 => ?_)
    clear hK K
    try simp only [pS]
    refine wpAnyH_ready (rs := [12]) (by kernel_rfl) (by simp) ?_
    refine rc rfl fun K hK => ?_
    go_simp
    refine (uh HID _ _ (uh HN4)).mono ?_; rintro e w5 ⟨rfl, hb5⟩; have HA5 := hide ((uh HA4).below hb5); have BB5 := hide ((uh BB4).trans (hb5.mono (uh BB4).size)); clear hb5
    go_wp2_with fail
    refine hK.out _ _ (by first | exact (uh HA5) | assumption | (dsimp only; assumption)) (fun hHeld2 => ?_)
    clear hK K
    try simp only [pS]
    refine wpAnyH_ready (rs := [13]) (by kernel_rfl) (by simp) ?_
    refine rc rfl fun K hK => ?_
    go_simp
    refine (when_any _ _ _).mono ?_; rintro e ww13 ⟨rfl, hw13⟩; subst hw13
    go_wp2_with fail
    refine hK.out _ _ (by first | exact (uh HA5) | assumption | (dsimp only; assumption)) (fun hHeld2 => ?_)
    clear hK K
    try simp only [pS]
    refine wpAnyH_ready (rs := [20]) (by kernel_rfl) (by simp) ?_
    refine rc rfl fun K hK => ?_
    go_simp
    refine (uh HMD _ (uh HA5)).mono ?_; rintro e w6 ⟨rfl, hb6⟩; have HA6 := hide ((uh HA5).below hb6); have BB6 := hide ((uh BB5).trans (hb6.mono (uh BB5).size)); clear hb6
    go_wp2_with fail
    refine hK.out _ _ (by first | exact (uh HA6) | assumption | (dsimp only; assumption)) (fun hHeld2 => ?_)
    clear hK K
    try simp only [pS]
    refine wpAnyH_ready (rs := [21]) (by kernel_rfl) (by simp) ?_
    refine rc rfl fun K hK => ?_
    go_simp
    skip
    go_wp2_with fail
    refine hK.out _ _ (by first | exact ((uh HA6).al _) | assumption | (dsimp only; assumption)) (fun hHeld2 => ?_)
    clear hK K
    try simp only [pS]
    refine wpAnyH_ready (rs := [22]) (by kernel_rfl) (by simp) ?_
    refine rc rfl fun K hK => ?_
    go_simp
    refine (or4_any _ _ _ _ _ _ rfl).mono ?_; rintro e ww22 ⟨rfl, hw22⟩; subst hw22
    go_wp2_with fail
    refine hK.out _ _ (by first | exact ((uh HA6).al _) | assumption | (dsimp only; assumption)) (fun hHeld2 => ?_)
    clear hK K
    try simp only [pS]
    refine tk 23 rfl (v := ?v75) (.inl ⟨by rfl, ?hy75⟩) ?rest75
    case hy75 => intro w hSw; have hSc := At.cells hSw; go_simp; try with_reducible rfl
    try simp only [pS]
    refine wpAnyH_done (by kernel_rfl) ?_ _
    go_wp2_with fail
    go_meet
    exact ⟨by rw [uh hER], (uh HA6).al _, (uh BB6).alloc (uh BB6).size _⟩
  case rest =>
    obtain ⟨rfl, HA, HBB⟩ := hcut
    rw [uh HW1] at HBB
    clear HA0 BB0 hER
    by_cases her : er = 0
    · have HK2 : Hid (RR = yes a.now a.removed) := by show _ = _; rw [uh HK, if_neg (fun q => q her)]
      have hern : (er != 0) = false := by simpa using her
      subst her
      clear HK hern
      have HRB : Hid (w.heap.size < wc.heap.size) := by show _ < _; have := (uh HBB).size; simp at this; omega
      have HCP := hide (copy_any (uh HA))
      have HRM2 := hide (uh HRM wc (uh HA))
      clear HCP
      go_wp2_with fail
      refine (uh HRM2).mono ?_
      rintro e w2 ⟨⟨va, vn, vc, rfl, hot⟩, hb2⟩
      have HBW := hide ((uh HBB).trans (hb2.mono (by have := uh HRB; have := (uh HBB).size; omega)))
      obtain ⟨r0, r1, z0, z1⟩ := room_cells (uh HBW)
      have HDF := hide (hot.room (uh HRB) (.slice va vn vc) (.int .i64 a.now))
      have HF := hide (room_below (uh HBW) (.slice va vn vc) (.int .i64 a.now))
      clear hot hb2 HRM2
      go_wp2_with fail
      refine bodyPost_ret (v := .tuple #[.agg #[.slice va vn vc, .int .i64 a.now], .int .i64 0]) (by simp [results, Tryz.results126, go_sem, r0, r1]) rfl ?_
      show DoR RR w _ _
      rw [uh HK2]
      exact ⟨⟨_, rfl, uh HDF⟩, uh HF⟩
    · have HRD := hide (room_cells (uh HBB))
      have HF := hide (room_below (uh HBB) (.slice none 0 0) (.int .i64 0))
      have HK2 : Hid (RR = no er) := by show _ = _; rw [uh HK, if_pos her]
      obtain ⟨r0, r1, z0, z1⟩ := uh HRD
      have hern : (er != 0) = true := by simpa using her
      clear HRD HK HBB HA
      go_wp2_with fail
      refine bodyPost_ret (v := .tuple #[.agg #[.slice none 0 0, .int .i64 0], .int .i64 er]) (by simp [results, Tryz.results126, go_sem, r0, r1]) rfl ?_
      show DoR RR w _ _
      rw [uh HK2]
      exact ⟨⟨_, rfl, ot_nil _ _⟩, uh HF⟩
end Go.Proofs.YtidhceebafmlkaaGreatDoor.Ca

namespace Go.Proofs.YtidhceebafmlkaaGreatDoor.Ca
open Go.RowKit Cu Tr Pm Pt
set_option maxRecDepth 100000 in
theorem node_field (c0 c1 c2 c3 c4 c5 c6 c7 c8 c9 : Value) (w : World) : Sem.run Tryz.prog (Instr.field 82 (.agg #[c0, c1, c2, c3, c4, c5, c6, c7, c8, c9]) 6) w = Result.ok c6 w := by kernel_rfl
set_option maxRecDepth 100000 in
set_option maxHeartbeats 400000 in
theorem write_any (A : Nat) (x : Option Addr) (n cap : Nat) (dx : Option Addr) (dc : Nat) (a : Ac) (w : World) (h : At w A x n cap dx dc a) (hp : Okp a.ns a.p) (hcd : a.c.data.length ≤ 4611686018427387904) :
    Calls Tryz.prog 122 #[.pointer (some ⟨A, 0, none⟩)] w (DoR (a.fill []) w) := by
  obtain ⟨pd, hpd, hdr⟩ := hp.dir
  obtain ⟨pm, hpm, hpn, -⟩ := hp.node h.chk
  have HFI : Hid (∀ W, At W A x n cap dx dc a → Calls Tryz.prog 185 #[.pointer (some ⟨A, 0, none⟩), .slice none 0 0] W (DoR (a.fill []) W)) := fun W hW => fill_any A x n cap dx dc a none 0 [] W hW hp ⟨rfl, Nat.le_refl _, fun _ => ⟨rfl, rfl⟩, .inl rfl⟩ (by simp) hcd
  obtain ⟨RR, hRR⟩ : ∃ RR, RR = a.fill [] := ⟨_, rfl⟩
  rw [← hRR]
  rw [← hRR] at HFI
  clear hRR
  obtain ⟨⟨ns, nw⟩, er⟩ := RR
  obtain ⟨w1, hw1⟩ : ∃ w1, w1 = w.alloc (.cells zTree 24) := ⟨_, rfl⟩
  have HA1 : Hid (At w1 A x n cap dx dc a) := by rw [hw1]; exact h.al _
  have HLOW : Hid (∀ W', Below w1.heap.size w1 W' → Below (w.alloc (.cells zTree 24)).heap.size (w.alloc (.cells zTree 24)) W') := fun W' hb => by rw [← hw1]; exact hb
  have HSZ : Hid (w.heap.size < w1.heap.size) := by show _ < _; rw [hw1]; simp
  have HW1 := hide hw1
  clear h hw1 hp hpd hpm hpn hdr
  go_enter Tryz.func122, Tryz.ntmps122
  go_upto_region 1 with fail
  rw [← uh HW1]
  go_wp2_with fail
  refine (uh HFI _ (uh HA1)).mono ?_
  rintro e w2 ⟨⟨v, rfl, hot⟩, hb2⟩
  obtain ⟨va, vn, vc, hv⟩ : ∃ a n c, v = .slice a n c := by
    obtain ⟨l, hr, -⟩ := hot
    obtain ⟨a', c', h⟩ := own_sl hr
    exact ⟨_, _, _, h⟩
  subst hv
  have HBW : Hid (Below (w.alloc (.cells zTree 24)).heap.size (w.alloc (.cells zTree 24)) w2) := uh HLOW _ hb2
  obtain ⟨r0, r1, z0, z1⟩ := room_cells (uh HBW)
  have HDF := hide (hot.room (uh HSZ) (.slice va vn vc) (.int .i64 nw))
  have HF := hide (room_below (uh HBW) (.slice va vn vc) (.int .i64 nw))
  clear hot hb2
  go_wp2_with fail
  refine bodyPost_ret (v := .tuple #[.agg #[.slice va vn vc, .int .i64 nw], .int .i64 er]) (by simp [results, Tryz.results122, go_sem, r0, r1]) rfl ?_
  exact ⟨⟨_, rfl, uh HDF⟩, uh HF⟩
set_option maxRecDepth 100000 in
set_option maxHeartbeats 400000 in
theorem lengthen_any (A : Nat) (x : Option Addr) (n cap : Nat) (dx : Option Addr) (dc : Nat) (a : Ac) (w : World) (h : At w A x n cap dx dc a) (hp : Okp a.ns a.p) (hcd : a.c.data.length ≤ 4611686018427387904) :
    Calls Tryz.prog 123 #[.pointer (some ⟨A, 0, none⟩)] w (DoR (a.fill a.here.data) w) := by
  obtain ⟨pd, hpd, hdr⟩ := hp.dir
  obtain ⟨pm, hpm, hpn, -⟩ := hp.node h.chk
  have hfl : a.here.data.length ≤ 65536 := by
    unfold Ac.here
    rw [hpm]
    exact data_small ((checkP_parts h.chk).2.2.2.2.2.1 pm hpn)
  have HFI : Hid (∀ W da ec, At W A x n cap dx dc a → By W da a.here.data.length ec a.here.data → Calls Tryz.prog 185 #[.pointer (some ⟨A, 0, none⟩), .slice da a.here.data.length ec] W (DoR (a.fill a.here.data) W)) := fun W da ec hW hB => fill_any A x n cap dx dc a da ec a.here.data W hW hp hB hfl hcd
  have HHH : Hid (∀ W, At W A x n cap dx dc a → Calls Tryz.prog 186 #[.pointer (some ⟨A, 0, none⟩)] W fun e w' => (∃ v, e = .returned v ∧ IsNd w' v a.here) ∧ Below W.heap.size W w') := fun W hW => here_any A x n cap dx dc a pm W hW hpm hpn
  obtain ⟨RR, hRR⟩ : ∃ RR, RR = a.fill a.here.data := ⟨_, rfl⟩
  rw [← hRR]
  rw [← hRR] at HFI
  clear hRR
  obtain ⟨⟨ns, nw⟩, er⟩ := RR
  obtain ⟨w1, hw1⟩ : ∃ w1, w1 = w.alloc (.cells zTree 24) := ⟨_, rfl⟩
  have HA1 : Hid (At w1 A x n cap dx dc a) := by rw [hw1]; exact h.al _
  have HLOW : Hid (∀ W', Below w1.heap.size w1 W' → Below (w.alloc (.cells zTree 24)).heap.size (w.alloc (.cells zTree 24)) W') := fun W' hb => by rw [← hw1]; exact hb
  have HSZ : Hid (w.heap.size < w1.heap.size) := by show _ < _; rw [hw1]; simp
  have HW1 := hide hw1
  clear h hw1 hp hpd hpm hpn hdr
  go_enter Tryz.func123, Tryz.ntmps123
  go_upto_region 1 with fail
  rw [← uh HW1]
  go_wp2_with fail
  refine (uh HHH _ (uh HA1)).mono ?_
  rintro e w3 ⟨⟨vh, rfl, da, ec, la, lc, hvh, hby, -⟩, hb3⟩
  subst hvh
  have HA3 := hide ((uh HA1).below hb3)
  have HBY := hide hby
  have HB3 := hide hb3
  clear hb3 hby
  unfold nv na
  go_wp2_with fail
  rw [node_field]
  go_wp2_with fail
  refine (uh HFI _ _ _ (uh HA3) (uh HBY)).mono ?_
  rintro e w2 ⟨⟨v, rfl, hot⟩, hb2⟩
  obtain ⟨va, vn, vc, hv⟩ : ∃ a n c, v = .slice a n c := by
    obtain ⟨l, hr, -⟩ := hot
    obtain ⟨a', c', h⟩ := own_sl hr
    exact ⟨_, _, _, h⟩
  subst hv
  have HBW : Hid (Below (w.alloc (.cells zTree 24)).heap.size (w.alloc (.cells zTree 24)) w2) := uh HLOW _ ((uh HB3).trans (hb2.mono (uh HB3).size))
  obtain ⟨r0, r1, z0, z1⟩ := room_cells (uh HBW)
  have HDF := hide (hot.room (Nat.lt_of_lt_of_le (uh HSZ) (uh HB3).size) (.slice va vn vc) (.int .i64 nw))
  have HF := hide (room_below (uh HBW) (.slice va vn vc) (.int .i64 nw))
  clear hot hb2
  go_wp2_with fail
  refine bodyPost_ret (v := .tuple #[.agg #[.slice va vn vc, .int .i64 nw], .int .i64 er]) (by simp [results, Tryz.results123, go_sem, r0, r1]) rfl ?_
  exact ⟨⟨_, rfl, uh HDF⟩, uh HF⟩
end Go.Proofs.YtidhceebafmlkaaGreatDoor.Ca
