import Derived.Test.YtidhceebafmlkaaGreatDoorCaAct2
import Derived.Test.YtidhceebafmlkaaGreatDoorCaPlain
import Derived.Deep.DeepCutAuto
import Derived.Deep.CutBlock
namespace Go.Proofs.YtidhceebafmlkaaGreatDoor.Ca
open Go.RowKit Cu Tr Pm Pt
theorem or2_any (p q : Int) (W : World) (k : Nat) (hk : k = W.heap.size) : Calls Tryz.prog 187 #[.slice (some ⟨k, 0, none⟩) 2 2] (W.alloc (.cells #[.int .i64 p, .int .i64 q] 36)) fun e w' => e = .returned (.int .i64 (orP [p, q])) ∧ w' = W.alloc (.cells #[.int .i64 p, .int .i64 q] 36) := by
  subst hk
  exact or_any [p, q] W.heap.size 2 2 _ rfl (fun i hi => by
    match i, hi with
    | 0, _ => simp
    | 1, _ => simp) (by omega)
theorem or3_any (p q r : Int) (W : World) (k : Nat) (hk : k = W.heap.size) : Calls Tryz.prog 187 #[.slice (some ⟨k, 0, none⟩) 3 3] (W.alloc (.cells #[.int .i64 p, .int .i64 q, .int .i64 r] 36)) fun e w' => e = .returned (.int .i64 (orP [p, q, r])) ∧ w' = W.alloc (.cells #[.int .i64 p, .int .i64 q, .int .i64 r] 36) := by
  subst hk
  exact or_any [p, q, r] W.heap.size 3 3 _ rfl (fun i hi => by
    match i, hi with
    | 0, _ => simp
    | 1, _ => simp
    | 2, _ => simp) (by omega)
theorem or4_any (p q r s : Int) (W : World) (k : Nat) (hk : k = W.heap.size) : Calls Tryz.prog 187 #[.slice (some ⟨k, 0, none⟩) 4 4] (W.alloc (.cells #[.int .i64 p, .int .i64 q, .int .i64 r, .int .i64 s] 36)) fun e w' => e = .returned (.int .i64 (orP [p, q, r, s])) ∧ w' = W.alloc (.cells #[.int .i64 p, .int .i64 q, .int .i64 r, .int .i64 s] 36) := by
  subst hk
  exact or_any [p, q, r, s] W.heap.size 4 4 _ rfl (fun i hi => by
    match i, hi with
    | 0, _ => simp
    | 1, _ => simp
    | 2, _ => simp
    | 3, _ => simp) (by omega)
theorem or5_any (p q r s t : Int) (W : World) (k : Nat) (hk : k = W.heap.size) : Calls Tryz.prog 187 #[.slice (some ⟨k, 0, none⟩) 5 5] (W.alloc (.cells #[.int .i64 p, .int .i64 q, .int .i64 r, .int .i64 s, .int .i64 t] 36)) fun e w' => e = .returned (.int .i64 (orP [p, q, r, s, t])) ∧ w' = W.alloc (.cells #[.int .i64 p, .int .i64 q, .int .i64 r, .int .i64 s, .int .i64 t] 36) := by
  subst hk
  exact or_any [p, q, r, s, t] W.heap.size 5 5 _ rfl (fun i hi => by
    match i, hi with
    | 0, _ => simp
    | 1, _ => simp
    | 2, _ => simp
    | 3, _ => simp
    | 4, _ => simp) (by omega)
set_option maxRecDepth 100000 in
set_option maxHeartbeats 400000 in
theorem told_any (k was : Int) (w : World) : Calls Tryz.prog 207 #[.int .i64 k, .int .i64 was] w fun e w' => e = .returned (.int .i64 (told k was)) ∧ w' = w := by
  unfold told
  by_cases hk : k = -1
  · subst hk
    rw [if_pos rfl]
    go_enter Tryz.func207, Tryz.ntmps207
    go_wp2
    go_ret
    exact ⟨rfl, rfl⟩
  · rw [if_neg hk]
    go_enter Tryz.func207, Tryz.ntmps207
    go_wp2
    go_ret
    exact ⟨rfl, rfl⟩
set_option maxRecDepth 100000 in
set_option maxHeartbeats 4000000 in
theorem mayName_any (A : Nat) (x : Option Addr) (n cap : Nat) (dx : Option Addr) (dc : Nat) (a : Ac) (w : World) (h : At w A x n cap dx dc a) (hp : Okp a.ns a.q) :
    Calls Tryz.prog 201 #[.pointer (some ⟨A, 0, none⟩)] w fun e w' => e = .returned (.int .i64 a.mayName) ∧ Below w.heap.size w w' := by
  obtain ⟨qd, hqd, hqr⟩ := hp.dir
  obtain ⟨qm, hqm, hqn, -⟩ := hp.node h.chk
  obtain ⟨b1, hb1⟩ : ∃ b, b = nameless a.q := ⟨_, rfl⟩
  obtain ⟨b2, hb2⟩ : ∃ b, b = isN a.there := ⟨_, rfl⟩
  have HV : Hid (a.mayName = orP [wh (nameless a.q || !isN a.there) 7, wh a.q.dirs 6, a.mayCome a.q.dir]) := rfl
  have HNM : Hid (∀ W, At W A x n cap dx dc a → Calls Tryz.prog 189 #[.agg (pv a.q)] W fun e w' => e = .returned (.bool b1) ∧ Below W.heap.size W w') := fun W _ => by rw [hb1]; exact isNameless_any a.q W
  have HH : Hid (∀ W, At W A x n cap dx dc a → Calls Tryz.prog 247 #[.pointer (some ⟨A, 0, none⟩)] W fun e w' => (∃ v, e = .returned v ∧ IsNd w' v a.there) ∧ Below W.heap.size W w') := fun W hW => there_any A x n cap dx dc a qm W hW hqm hqn
  have HIN : Hid (∀ v W, IsNd W v a.there → Calls Tryz.prog 190 #[v] W fun e w' => e = .returned (.bool b2) ∧ Below W.heap.size W w') := fun v W hW => by rw [hb2]; exact isNone_any v a.there W hW
  have HMC : Hid (∀ W, At W A x n cap dx dc a → Calls Tryz.prog 191 #[.pointer (some ⟨A, 0, none⟩), .int .i64 a.q.dir] W fun e w' => e = .returned (.int .i64 (a.mayCome a.q.dir)) ∧ Below W.heap.size W w') := fun W hW => by rw [hqd]; exact mayCome_any A x n cap dx dc a qd W hW hqr.2.1
  have HA0 := hide h.dr
  have BB0 : Hid (Below w.heap.size w w.drew) := below_drew w 1
  clear h hp hqd hqr hqm hqn
  go_enter Tryz.func201, Tryz.ntmps201
  cases b1 with
  | true =>
    rw [← hb2, ← hb1] at HV
    clear hb1 hb2
    rw [Bool.true_or] at HV
    go_wp2_with fail
    refine wp_region_held_drew (S := (fun w' => At w' A x n cap dx dc a)) (by kernel_rfl) (uh HA0) (fun hHeld => ?_)
    refine tk 0 rfl (v := ?v1) (.inl ⟨by rfl, ?hy1⟩) ?rest1
    case hy1 => intro w hSw; have hSc := At.cells hSw; go_simp; try with_reducible rfl
    try simp only [pS]
    refine tk 1 rfl (v := ?v2) (.inl ⟨by rfl, ?hy2⟩) ?rest2
    case hy2 => intro w hSw; have hSc := At.cells hSw; go_simp; try with_reducible rfl
    try simp only [pS]
    refine tk 2 rfl (v := ?v3) (.inl ⟨by rfl, ?hy3⟩) ?rest3
    case hy3 => intro w hSw; have hSc := At.cells hSw; go_simp; try with_reducible rfl
    try simp only [pS]
    refine tk 3 rfl (v := ?v4) (.inl ⟨by rfl, ?hy4⟩) ?rest4
    case hy4 => intro w hSw; have hSc := At.cells hSw; go_simp; try with_reducible rfl
    try simp only [pS]
    refine tk 12 rfl (v := ?v5) (.inl ⟨by rfl, ?hy5⟩) ?rest5
    case hy5 => intro w hSw; have hSc := At.cells hSw; go_simp; try with_reducible rfl
    try simp only [pS]
    refine tk 13 rfl (v := ?v6) (.inl ⟨by rfl, ?hy6⟩) ?rest6
    case hy6 => intro w hSw; have hSc := At.cells hSw; go_simp; try with_reducible rfl
    try simp only [pS]
    refine tk 14 rfl (v := ?v7) (.inl ⟨by rfl, ?hy7⟩) ?rest7
    case hy7 => intro w hSw; have hSc := At.cells hSw; go_simp; try with_reducible rfl
    try simp only [pS]
    refine tk 15 rfl (v := ?v8) (.inl ⟨by rfl, ?hy8⟩) ?rest8
    case hy8 => intro w hSw; have hSc := At.cells hSw; go_simp; try with_reducible rfl
    try simp only [pS]
    refine tk 16 rfl (v := ?v9) (.inl ⟨by rfl, ?hy9⟩) ?rest9
    case hy9 => intro w hSw; have hSc := At.cells hSw; go_simp; try with_reducible rfl
    try simp only [pS]
    refine tk 18 rfl (v := ?v10) (.inl ⟨by rfl, ?hy10⟩) ?rest10
    case hy10 => intro w hSw; have hSc := At.cells hSw; go_simp; try with_reducible rfl
    try simp only [pS]
    refine tk 19 rfl (v := ?v11) (.inl ⟨by rfl, ?hy11⟩) ?rest11
    case hy11 => intro w hSw; have hSc := At.cells hSw; go_simp; try with_reducible rfl
    try simp only [pS]
    refine tk 20 rfl (v := ?v12) (.inl ⟨by rfl, ?hy12⟩) ?rest12
    case hy12 => intro w hSw; have hSc := At.cells hSw; go_simp; try with_reducible rfl
    try simp only [pS]
    refine tk 21 rfl (v := ?v13) (.inl ⟨by rfl, ?hy13⟩) ?rest13
    case hy13 => intro w hSw; have hSc := At.cells hSw; go_simp; try with_reducible rfl
    try simp only [pS]
    refine tk 22 rfl (v := ?v14) (.inl ⟨by rfl, ?hy14⟩) ?rest14
    case hy14 => intro w hSw; have hSc := At.cells hSw; go_simp; try with_reducible rfl
    try simp only [pS]
    refine tk 23 rfl (v := ?v15) (.inl ⟨by rfl, ?hy15⟩) ?rest15
    case hy15 => intro w hSw; have hSc := At.cells hSw; go_simp; try with_reducible rfl
    try simp only [pS]
    refine wpAnyH_ready (rs := [4]) (by kernel_rfl) (by simp) ?_
    refine rc rfl fun K hK => ?_
    go_simp
    refine (uh HNM _ (uh HA0)).mono ?_; rintro e w1 ⟨rfl, hb1⟩; have HA1 := hide ((uh HA0).below hb1); have BB1 := hide ((uh BB0).trans (hb1.mono (uh BB0).size)); clear hb1
    go_wp2_with fail
    refine hK.out _ _ (by first | exact (uh HA1) | assumption | (dsimp only; assumption)) (fun hHeld2 => ?_)
    clear hK K
    try simp only [pS]
    refine tk 5 rfl (v := ?v16) (.inl ⟨by rfl, ?hy16⟩) ?rest16
    case hy16 => intro w hSw; have hSc := At.cells hSw; go_simp; try with_reducible rfl
    try simp only [pS]
    refine tk 6 rfl (v := undef) (.inr ⟨by rfl, rfl⟩) ?_
    try simp only [pS]
    refine tk 7 rfl (v := undef) (.inr ⟨by rfl, rfl⟩) ?_
    try simp only [pS]
    refine tk 8 rfl (v := undef) (.inr ⟨by rfl, rfl⟩) ?_
    try simp only [pS]
    refine tk 9 rfl (v := undef) (.inr ⟨by rfl, rfl⟩) ?_
    try simp only [pS]
    refine tk 10 rfl (v := ?v21) (.inl ⟨by rfl, ?hy21⟩) ?rest21
    case hy21 => intro w hSw; have hSc := At.cells hSw; go_simp; try with_reducible rfl
    try simp only [pS]
    refine wpAnyH_ready (rs := [11]) (by kernel_rfl) (by simp) ?_
    refine rc rfl fun K hK => ?_
    go_simp
    refine (when_any _ _ _).mono ?_; rintro e ww11 ⟨rfl, hw11⟩; subst hw11
    go_wp2_with fail
    refine hK.out _ _ (by first | exact (uh HA1) | assumption | (dsimp only; assumption)) (fun hHeld2 => ?_)
    clear hK K
    try simp only [pS]
    refine wpAnyH_ready (rs := [17]) (by kernel_rfl) (by simp) ?_
    refine rc rfl fun K hK => ?_
    go_simp
    refine (when_any _ _ _).mono ?_; rintro e ww17 ⟨rfl, hw17⟩; subst hw17
    go_wp2_with fail
    refine hK.out _ _ (by first | exact (uh HA1) | assumption | (dsimp only; assumption)) (fun hHeld2 => ?_)
    clear hK K
    try simp only [pS]
    refine wpAnyH_ready (rs := [24]) (by kernel_rfl) (by simp) ?_
    refine rc rfl fun K hK => ?_
    go_simp
    refine (uh HMC _ (uh HA1)).mono ?_; rintro e w2 ⟨rfl, hb2⟩; have HA2 := hide ((uh HA1).below hb2); have BB2 := hide ((uh BB1).trans (hb2.mono (uh BB1).size)); clear hb2
    go_wp2_with fail
    refine hK.out _ _ (by first | exact (uh HA2) | assumption | (dsimp only; assumption)) (fun hHeld2 => ?_)
    clear hK K
    try simp only [pS]
    refine wpAnyH_ready (rs := [25]) (by kernel_rfl) (by simp) ?_
    refine rc rfl fun K hK => ?_
    go_simp
    skip
    go_wp2_with fail
    refine hK.out _ _ (by first | exact ((uh HA2).al _) | assumption | (dsimp only; assumption)) (fun hHeld2 => ?_)
    clear hK K
    try simp only [pS]
    refine wpAnyH_ready (rs := [26]) (by kernel_rfl) (by simp) ?_
    refine rc rfl fun K hK => ?_
    go_simp
    refine (or3_any _ _ _ _ _ rfl).mono ?_; rintro e ww26 ⟨rfl, hw26⟩; subst hw26
    go_wp2_with fail
    refine hK.out _ _ (by first | exact ((uh HA2).al _) | assumption | (dsimp only; assumption)) (fun hHeld2 => ?_)
    clear hK K
    try simp only [pS]
    refine tk 27 rfl (v := ?v22) (.inl ⟨by rfl, ?hy22⟩) ?rest22
    case hy22 => intro w hSw; have hSc := At.cells hSw; go_simp; try with_reducible rfl
    try simp only [pS]
    refine wpAnyH_done (by kernel_rfl) ?_ _
    go_wp2_with fail
    go_ret
    exact ⟨by rw [uh HV]; rfl, (uh BB2).alloc (uh BB2).size _⟩
  | false =>
    rw [← hb2, ← hb1] at HV
    clear hb1 hb2
    rw [Bool.false_or] at HV
    go_wp2_with fail
    refine wp_region_held_drew (S := (fun w' => At w' A x n cap dx dc a)) (by kernel_rfl) (uh HA0) (fun hHeld => ?_)
    refine tk 0 rfl (v := ?v23) (.inl ⟨by rfl, ?hy23⟩) ?rest23
    case hy23 => intro w hSw; have hSc := At.cells hSw; go_simp; try with_reducible rfl
    try simp only [pS]
    refine tk 1 rfl (v := ?v24) (.inl ⟨by rfl, ?hy24⟩) ?rest24
    case hy24 => intro w hSw; have hSc := At.cells hSw; go_simp; try with_reducible rfl
    try simp only [pS]
    refine tk 2 rfl (v := ?v25) (.inl ⟨by rfl, ?hy25⟩) ?rest25
    case hy25 => intro w hSw; have hSc := At.cells hSw; go_simp; try with_reducible rfl
    try simp only [pS]
    refine tk 3 rfl (v := ?v26) (.inl ⟨by rfl, ?hy26⟩) ?rest26
    case hy26 => intro w hSw; have hSc := At.cells hSw; go_simp; try with_reducible rfl
    try simp only [pS]
    refine tk 12 rfl (v := ?v27) (.inl ⟨by rfl, ?hy27⟩) ?rest27
    case hy27 => intro w hSw; have hSc := At.cells hSw; go_simp; try with_reducible rfl
    try simp only [pS]
    refine tk 13 rfl (v := ?v28) (.inl ⟨by rfl, ?hy28⟩) ?rest28
    case hy28 => intro w hSw; have hSc := At.cells hSw; go_simp; try with_reducible rfl
    try simp only [pS]
    refine tk 14 rfl (v := ?v29) (.inl ⟨by rfl, ?hy29⟩) ?rest29
    case hy29 => intro w hSw; have hSc := At.cells hSw; go_simp; try with_reducible rfl
    try simp only [pS]
    refine tk 15 rfl (v := ?v30) (.inl ⟨by rfl, ?hy30⟩) ?rest30
    case hy30 => intro w hSw; have hSc := At.cells hSw; go_simp; try with_reducible rfl
    try simp only [pS]
    refine tk 16 rfl (v := ?v31) (.inl ⟨by rfl, ?hy31⟩) ?rest31
    case hy31 => intro w hSw; have hSc := At.cells hSw; go_simp; try with_reducible rfl
    try simp only [pS]
    refine tk 18 rfl (v := ?v32) (.inl ⟨by rfl, ?hy32⟩) ?rest32
    case hy32 => intro w hSw; have hSc := At.cells hSw; go_simp; try with_reducible rfl
    try simp only [pS]
    refine tk 19 rfl (v := ?v33) (.inl ⟨by rfl, ?hy33⟩) ?rest33
    case hy33 => intro w hSw; have hSc := At.cells hSw; go_simp; try with_reducible rfl
    try simp only [pS]
    refine tk 20 rfl (v := ?v34) (.inl ⟨by rfl, ?hy34⟩) ?rest34
    case hy34 => intro w hSw; have hSc := At.cells hSw; go_simp; try with_reducible rfl
    try simp only [pS]
    refine tk 21 rfl (v := ?v35) (.inl ⟨by rfl, ?hy35⟩) ?rest35
    case hy35 => intro w hSw; have hSc := At.cells hSw; go_simp; try with_reducible rfl
    try simp only [pS]
    refine tk 22 rfl (v := ?v36) (.inl ⟨by rfl, ?hy36⟩) ?rest36
    case hy36 => intro w hSw; have hSc := At.cells hSw; go_simp; try with_reducible rfl
    try simp only [pS]
    refine tk 23 rfl (v := ?v37) (.inl ⟨by rfl, ?hy37⟩) ?rest37
    case hy37 => intro w hSw; have hSc := At.cells hSw; go_simp; try with_reducible rfl
    try simp only [pS]
    refine wpAnyH_ready (rs := [4]) (by kernel_rfl) (by simp) ?_
    refine rc rfl fun K hK => ?_
    go_simp
    refine (uh HNM _ (uh HA0)).mono ?_; rintro e w1 ⟨rfl, hb1⟩; have HA1 := hide ((uh HA0).below hb1); have BB1 := hide ((uh BB0).trans (hb1.mono (uh BB0).size)); clear hb1
    go_wp2_with fail
    refine hK.out _ _ (by first | exact (uh HA1) | assumption | (dsimp only; assumption)) (fun hHeld2 => ?_)
    clear hK K
    try simp only [pS]
    refine tk 5 rfl (v := ?v38) (.inl ⟨by rfl, ?hy38⟩) ?rest38
    case hy38 => intro w hSw; have hSc := At.cells hSw; go_simp; try with_reducible rfl
    try simp only [pS]
    refine tk 6 rfl (v := ?v39) (.inl ⟨by rfl, ?hy39⟩) ?rest39
    case hy39 => intro w hSw; have hSc := At.cells hSw; go_simp; try with_reducible rfl
    try simp only [pS]
    refine wpAnyH_ready (rs := [7]) (by kernel_rfl) (by simp) ?_
    refine rc rfl fun K hK => ?_
    go_simp
    refine (uh HH _ (uh HA1)).mono ?_; rintro e w2 ⟨⟨v2, rfl, hnd2⟩, hb2⟩; have HN2 := hide hnd2; have HA2 := hide ((uh HA1).below hb2); have BB2 := hide ((uh BB1).trans (hb2.mono (uh BB1).size)); clear hb2; clear hnd2
    go_wp2_with fail
    refine hK.out _ _ (by first | exact (uh HA2) | assumption | (dsimp only; assumption)) (fun hHeld2 => ?_)
    clear hK K
    try simp only [pS]
    refine wpAnyH_ready (rs := [8]) (by kernel_rfl) (by simp) ?_
    refine rc rfl fun K hK => ?_
    go_simp
    refine (uh HIN _ _ (uh HN2)).mono ?_; rintro e w3 ⟨rfl, hb3⟩; have HA3 := hide ((uh HA2).below hb3); have BB3 := hide ((uh BB2).trans (hb3.mono (uh BB2).size)); clear hb3
    go_wp2_with fail
    refine hK.out _ _ (by first | exact (uh HA3) | assumption | (dsimp only; assumption)) (fun hHeld2 => ?_)
    clear hK K
    try simp only [pS]
    refine tk 9 rfl (v := ?v40) (.inl ⟨by rfl, ?hy40⟩) ?rest40
    case hy40 => intro w hSw; have hSc := At.cells hSw; go_simp; try with_reducible rfl
    try simp only [pS]
    refine tk 10 rfl (v := ?v41) (.inl ⟨by rfl, ?hy41⟩) ?rest41
    case hy41 => intro w hSw; have hSc := At.cells hSw; go_simp; try with_reducible rfl
    try simp only [pS]
    refine wpAnyH_ready (rs := [11]) (by kernel_rfl) (by simp) ?_
    refine rc rfl fun K hK => ?_
    go_simp
    refine (when_any _ _ _).mono ?_; rintro e ww11 ⟨rfl, hw11⟩; subst hw11
    go_wp2_with fail
    refine hK.out _ _ (by first | exact (uh HA3) | assumption | (dsimp only; assumption)) (fun hHeld2 => ?_)
    clear hK K
    try simp only [pS]
    refine wpAnyH_ready (rs := [17]) (by kernel_rfl) (by simp) ?_
    refine rc rfl fun K hK => ?_
    go_simp
    refine (when_any _ _ _).mono ?_; rintro e ww17 ⟨rfl, hw17⟩; subst hw17
    go_wp2_with fail
    refine hK.out _ _ (by first | exact (uh HA3) | assumption | (dsimp only; assumption)) (fun hHeld2 => ?_)
    clear hK K
    try simp only [pS]
    refine wpAnyH_ready (rs := [24]) (by kernel_rfl) (by simp) ?_
    refine rc rfl fun K hK => ?_
    go_simp
    refine (uh HMC _ (uh HA3)).mono ?_; rintro e w4 ⟨rfl, hb4⟩; have HA4 := hide ((uh HA3).below hb4); have BB4 := hide ((uh BB3).trans (hb4.mono (uh BB3).size)); clear hb4
    go_wp2_with fail
    refine hK.out _ _ (by first | exact (uh HA4) | assumption | (dsimp only; assumption)) (fun hHeld2 => ?_)
    clear hK K
    try simp only [pS]
    refine wpAnyH_ready (rs := [25]) (by kernel_rfl) (by simp) ?_
    refine rc rfl fun K hK => ?_
    go_simp
    skip
    go_wp2_with fail
    refine hK.out _ _ (by first | exact ((uh HA4).al _) | assumption | (dsimp only; assumption)) (fun hHeld2 => ?_)
    clear hK K
    try simp only [pS]
    refine wpAnyH_ready (rs := [26]) (by kernel_rfl) (by simp) ?_
    refine rc rfl fun K hK => ?_
    go_simp
    refine (or3_any _ _ _ _ _ rfl).mono ?_; rintro e ww26 ⟨rfl, hw26⟩; subst hw26
    go_wp2_with fail
    refine hK.out _ _ (by first | exact ((uh HA4).al _) | assumption | (dsimp only; assumption)) (fun hHeld2 => ?_)
    clear hK K
    try simp only [pS]
    refine tk 27 rfl (v := ?v42) (.inl ⟨by rfl, ?hy42⟩) ?rest42
    case hy42 => intro w hSw; have hSc := At.cells hSw; go_simp; try with_reducible rfl
    try simp only [pS]
    refine wpAnyH_done (by kernel_rfl) ?_ _
    go_wp2_with fail
    go_ret
    exact ⟨by rw [uh HV]; rfl, (uh BB4).alloc (uh BB4).size _⟩
set_option maxRecDepth 100000 in
set_option maxHeartbeats 4000000 in
theorem mayFill_any (A : Nat) (x : Option Addr) (n cap : Nat) (dx : Option Addr) (dc : Nat) (a : Ac) (w : World) (h : At w A x n cap dx dc a) (hp : Okp a.ns a.p) :
    Calls Tryz.prog 243 #[.pointer (some ⟨A, 0, none⟩)] w fun e w' => e = .returned (.int .i64 a.mayFill) ∧ Below w.heap.size w w' := by
  obtain ⟨pd, hpd, hdr⟩ := hp.dir
  obtain ⟨pm, hpm, hpn, -⟩ := hp.node h.chk
  obtain ⟨b2, hb2⟩ : ∃ b, b = isN a.here := ⟨_, rfl⟩
  have HV : Hid (a.mayFill = if isN a.here then orP [a.mayCome a.p.dir, a.hasFree] else a.mayWrite a.p.node) := rfl
  have HH : Hid (∀ W, At W A x n cap dx dc a → Calls Tryz.prog 186 #[.pointer (some ⟨A, 0, none⟩)] W fun e w' => (∃ v, e = .returned v ∧ IsNd w' v a.here) ∧ Below W.heap.size W w') := fun W hW => here_any A x n cap dx dc a pm W hW hpm hpn
  have HIN : Hid (∀ v W, IsNd W v a.here → Calls Tryz.prog 190 #[v] W fun e w' => e = .returned (.bool b2) ∧ Below W.heap.size W w') := fun v W hW => by rw [hb2]; exact isNone_any v a.here W hW
  have HMC : Hid (∀ W, At W A x n cap dx dc a → Calls Tryz.prog 191 #[.pointer (some ⟨A, 0, none⟩), .int .i64 a.p.dir] W fun e w' => e = .returned (.int .i64 (a.mayCome a.p.dir)) ∧ Below W.heap.size W w') := fun W hW => by rw [hpd]; exact mayCome_any A x n cap dx dc a pd W hW hdr.2.1
  have HHF : Hid (∀ W, At W A x n cap dx dc a → Calls Tryz.prog 193 #[.pointer (some ⟨A, 0, none⟩)] W fun e w' => e = .returned (.int .i64 a.hasFree) ∧ Below W.heap.size W w') := fun W hW => hasFree_any A x n cap dx dc a W hW
  have HMW : Hid (∀ W, At W A x n cap dx dc a → Calls Tryz.prog 199 #[.pointer (some ⟨A, 0, none⟩), .int .i64 a.p.node] W fun e w' => e = .returned (.int .i64 (a.mayWrite a.p.node)) ∧ Below W.heap.size W w') := fun W hW => by rw [hpm]; exact mayWrite_any A x n cap dx dc a pm W hW hpn
  rw [← hb2] at HV
  have HA0 := hide h
  clear h hp hpd hdr hpm hpn hb2
  go_enter Tryz.func243, Tryz.ntmps243
  go_wp2_with fail
  refine (uh HH _ (uh HA0)).mono ?_
  rintro e w1 ⟨⟨v1, rfl, hnd1⟩, hb1⟩
  have HN1 := hide hnd1
  have HA1 := hide ((uh HA0).below hb1)
  have BB1 := hide hb1
  clear hnd1 hb1
  go_wp2_with fail
  refine (uh HIN _ _ (uh HN1)).mono ?_
  rintro e w2 ⟨rfl, hb2⟩
  have HA2 := hide ((uh HA1).below hb2)
  have BB2 := hide ((uh BB1).trans (hb2.mono (uh BB1).size))
  clear hb2 HN1
  cases b2 with
  | true =>
    rw [if_pos rfl] at HV
    obtain ⟨-, -, -, -, -, -, -, -, -, -, -, -, -, -, c14, -⟩ := (uh HA2).cells
    go_wp2_with fail
    clear c14
    refine (uh HMC _ (uh HA2)).mono ?_
    rintro e w3 ⟨rfl, hb3⟩
    have HA3 := hide ((uh HA2).below hb3)
    have BB3 := hide ((uh BB2).trans (hb3.mono (uh BB2).size))
    clear hb3
    go_wp2_with fail
    refine (uh HHF _ (uh HA3)).mono ?_
    rintro e w4 ⟨rfl, hb4⟩
    have HA4 := hide ((uh HA3).below hb4)
    have BB4 := hide ((uh BB3).trans (hb4.mono (uh BB3).size))
    clear hb4
    go_wp2_with fail
    refine (or2_any _ _ _ _ rfl).mono ?_
    rintro e w5 ⟨rfl, hw5⟩
    subst hw5
    go_wp2_with fail
    go_ret
    exact ⟨by rw [uh HV]; rfl, (uh BB4).alloc (uh BB4).size _⟩
  | false =>
    rw [if_neg (by decide)] at HV
    obtain ⟨-, -, -, -, -, -, -, -, -, -, -, -, -, -, -, -, c16, -⟩ := (uh HA2).cells
    go_wp2_with fail
    clear c16
    refine (uh HMW _ (uh HA2)).mono ?_
    rintro e w3 ⟨rfl, hb3⟩
    have BB3 := hide ((uh BB2).trans (hb3.mono (uh BB2).size))
    clear hb3
    go_wp2_with fail
    go_ret
    exact ⟨by rw [uh HV]; rfl, uh BB3⟩
end Go.Proofs.YtidhceebafmlkaaGreatDoor.Ca
