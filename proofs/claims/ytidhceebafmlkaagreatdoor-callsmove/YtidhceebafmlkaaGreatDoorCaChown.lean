import Derived.Test.YtidhceebafmlkaaGreatDoorCaTwo
import Derived.Test.YtidhceebafmlkaaGreatDoorCaSym
import Derived.Test.YtidhceebafmlkaaGreatDoorCaMay
import Derived.BigRegion
namespace Go.Proofs.YtidhceebafmlkaaGreatDoor.Ca
open Go.RowKit Cu Tr Pm Pt
structure C2 (W : World) (A : Nat) (x : Option Addr) (n cap : Nat) (dx : Option Addr) (dc : Nat) (a : Ac) (nb : Nat) (m : Nd) (dv lv : Value) (cb : Nat) : Prop where
  inn : As W A x n cap dx dc a nb m dv lv
  cbox : W.heap[cb]? = some (.cells (clA a.c (.slice dx a.c.data.length dc)) 34)
section
variable {W W' : World} {A : Nat} {x : Option Addr} {n cap : Nat} {dx : Option Addr} {dc : Nat} {a : Ac} {nb : Nat} {m : Nd} {dv lv : Value} {cb : Nat}
theorem C2.below (h : C2 W A x n cap dx dc a nb m dv lv cb) (hb : Below W.heap.size W W') : C2 W' A x n cap dx dc a nb m dv lv cb :=
  ⟨h.inn.below hb, (hb.block _ (Array.getElem?_eq_some_iff.1 h.cbox).1).trans h.cbox⟩
theorem C2.al (h : C2 W A x n cap dx dc a nb m dv lv cb) (o : Obj) : C2 (W.alloc o) A x n cap dx dc a nb m dv lv cb := h.below (al_below _ _)
theorem C2.dr (h : C2 W A x n cap dx dc a nb m dv lv cb) : C2 W.drew A x n cap dx dc a nb m dv lv cb := h.below (below_drew W 1)
theorem C2.fa (h : C2 W A x n cap dx dc a nb m dv lv cb) : (W.cell? ⟨A, 0, none⟩ = some (.slice x n cap)) ∧ (W.cell? ⟨nb, 0, none⟩ = some (.int .u8 (m.kind.toNat : Int)) ∧ W.cell? ⟨nb, 1, none⟩ = some (.int .i64 m.mode) ∧ W.cell? ⟨nb, 2, none⟩ = some (.int .i64 m.user) ∧ W.cell? ⟨nb, 3, none⟩ = some (.int .i64 m.group) ∧ W.cell? ⟨nb, 4, none⟩ = some (.int .i64 m.links) ∧ W.cell? ⟨nb, 5, none⟩ = some (.int .i64 m.time) ∧ W.cell? ⟨nb, 6, none⟩ = some dv ∧ W.cell? ⟨nb, 7, none⟩ = some (.string m.target) ∧ W.cell? ⟨nb, 8, none⟩ = some lv ∧ W.cell? ⟨nb, 9, none⟩ = some (.int .i64 m.parent) ∧
    W.cell? ⟨cb, 0, none⟩ = some (.int .u8 (a.c.kind.toNat : Int)) ∧ W.cell? ⟨cb, 1, none⟩ = some (.string a.c.path) ∧ W.cell? ⟨cb, 2, none⟩ = some (.string a.c.other) ∧ W.cell? ⟨cb, 3, none⟩ = some (.int .i64 a.c.mode) ∧ W.cell? ⟨cb, 4, none⟩ = some (.int .i64 a.c.user) ∧ W.cell? ⟨cb, 5, none⟩ = some (.int .i64 a.c.group) ∧ W.cell? ⟨cb, 6, none⟩ = some (.int .i64 a.c.time) ∧ W.cell? ⟨cb, 7, none⟩ = some (.slice dx a.c.data.length dc) ∧ W.cell? ⟨cb, 8, none⟩ = some (.int .i64 a.c.env.user) ∧ W.cell? ⟨cb, 9, none⟩ = some (.int .i64 a.c.env.group) ∧ W.cell? ⟨cb, 10, none⟩ = some (.int .i64 a.c.env.mask) ∧ W.cell? ⟨cb, 11, none⟩ = some (.int .i64 a.c.env.dir)) :=
  ⟨h.inn.act.cells.1, h.inn.node.c0, h.inn.node.c1, h.inn.node.c2, h.inn.node.c3, h.inn.node.c4, h.inn.node.c5, h.inn.node.c6, h.inn.node.c7, h.inn.node.c8, h.inn.node.c9, cl_cells h.cbox⟩
end
theorem ne_b (a b : Int) : decide (a ≠ b) = (a != b) := by rw [Bool.eq_iff_iff]; simp
set_option maxRecDepth 100000 in
set_option maxHeartbeats 4000000 in
theorem chown_any (A : Nat) (x : Option Addr) (n cap : Nat) (dx : Option Addr) (dc : Nat) (a : Ac) (w : World) (h : At w A x n cap dx dc a) (hp : Okp a.ns a.p) :
    Calls Tryz.prog 131 #[.pointer (some ⟨A, 0, none⟩)] w (DoR a.chown w) := by
  obtain ⟨pd, hpd, hdr⟩ := hp.dir
  obtain ⟨pm, hpm, hpn, -⟩ := hp.node h.chk
  have key : a.chown = if orP [wh (isN a.here) 6, wh ((a.c.env.user != 0) && (((told a.c.user a.here.user != a.here.user) || ((told a.c.group a.here.group != a.here.group) && (told a.c.group a.here.group != a.c.env.group))) || !ownsP a.here a.c.env)) 10] ≠ 0 then no (orP [wh (isN a.here) 6, wh ((a.c.env.user != 0) && (((told a.c.user a.here.user != a.here.user) || ((told a.c.group a.here.group != a.here.group) && (told a.c.group a.here.group != a.c.env.group))) || !ownsP a.here a.c.env)) 10]) else yes a.now (upd (upd a.ns a.p.node.toNat fun y => { y with user := told a.c.user a.here.user }) a.p.node.toNat fun y => { y with group := told a.c.group a.here.group }) := by
    simp only [← ne_b]; rfl
  obtain ⟨RR, hRR⟩ : ∃ RR, RR = a.chown := ⟨_, rfl⟩
  rw [← hRR] at key ⊢
  clear hRR
  obtain ⟨tu, htu⟩ : ∃ tu, tu = told a.c.user a.here.user := ⟨_, rfl⟩
  obtain ⟨tg, htg⟩ : ∃ tg, tg = told a.c.group a.here.group := ⟨_, rfl⟩
  rw [← htu, ← htg] at key
  obtain ⟨aw, haw⟩ : ∃ aw, aw = ((tu != a.here.user) || ((tg != a.here.group) && (tg != a.c.env.group))) := ⟨_, rfl⟩
  rw [← haw] at key
  obtain ⟨er, her⟩ : ∃ er, er = orP [wh (isN a.here) 6, wh ((a.c.env.user != 0) && (aw || !ownsP a.here a.c.env)) 10] := ⟨_, rfl⟩
  rw [← her] at key
  have HK := hide key
  have hER := hide her
  have hAW := hide haw
  have hTU := hide htu
  have hTG := hide htg
  clear key her haw htu htg
  obtain ⟨w1, hw1⟩ : ∃ w1, w1 = w.alloc (.cells zTree 24) := ⟨_, rfl⟩
  have HA1 : Hid (At w1 A x n cap dx dc a) := by rw [hw1]; exact h.al _
  have HH : Hid (∀ W, At W A x n cap dx dc a → Calls Tryz.prog 186 #[.pointer (some ⟨A, 0, none⟩)] W fun e w' => (∃ v, e = .returned v ∧ IsNd w' v a.here) ∧ Below W.heap.size W w') := fun W hW => here_any A x n cap dx dc a pm W hW hpm hpn
  have HW1 := hide hw1
  have HPM := hide hpm
  have HPN := hide hpn
  have HS0 : Hid (B2 w1 w1.drew 82 34 none none) := B2.start
  clear h hw1 hp hpd hpm hpn hdr
  go_enter Tryz.func131, Tryz.ntmps131
  go_upto_region 1 with fail
  rw [← uh HW1]
  go_cut [4, 5] (fun u v wx => ∃ nb cb da ec la lc, u = .pointer (some ⟨nb, 0, none⟩) ∧ v = .pointer (some ⟨cb, 0, none⟩) ∧ Hid (B2 w1 wx 82 34 (some (nb, [.int .u8 (a.here.kind.toNat : Int), .int .i64 a.here.mode, .int .i64 a.here.user, .int .i64 a.here.group, .int .i64 a.here.links, .int .i64 a.here.time, .slice da a.here.data.length ec, .string a.here.target, .slice la a.here.list.length lc, .int .i64 a.here.parent])) (some (cb, [.int .u8 (a.c.kind.toNat : Int), .string a.c.path, .string a.c.other, .int .i64 a.c.mode, .int .i64 a.c.user, .int .i64 a.c.group, .int .i64 a.c.time, .slice dx a.c.data.length dc, .int .i64 a.c.env.user, .int .i64 a.c.env.group, .int .i64 a.c.env.mask, .int .i64 a.c.env.dir]))))
  case first =>
    go_wp2_with fail
    refine wp_region_held_drew (S := (fun w' => At w' A x n cap dx dc a)) (by kernel_rfl) ((uh HA1).below (uh HS0).bel) (fun hHeld => ?_)
    obtain ⟨W0, e0⟩ := wOf HS0; rw [e0] at HS0 hHeld ⊢; clear e0
    refine tk 0 rfl (v := ?v43) (.inl ⟨by rfl, ?hy43⟩) ?rest43
    case hy43 => intro w hSw; have hSc := At.cells hSw; go_simp; try with_reducible rfl
    try simp only [pS]
    refine tk 2 rfl (v := ?v44) (.inl ⟨by rfl, ?hy44⟩) ?rest44
    case hy44 => intro w hSw; have hSc := At.cells hSw; go_simp; try with_reducible rfl
    try simp only [pS]
    refine tk 3 rfl (v := ?v45) (.inl ⟨by rfl, ?hy45⟩) ?rest45
    case hy45 => intro w hSw; have hSc := At.cells hSw; go_simp; try with_reducible rfl
    try simp only [pS]
    refine tk 4 rfl (v := ?v46) (.inl ⟨by rfl, ?hy46⟩) ?rest46
    case hy46 => intro w hSw; have hSc := At.cells hSw; go_simp; try with_reducible rfl
    try simp only [pS]
    refine tk 5 rfl (v := ?v47) (.inl ⟨by rfl, ?hy47⟩) ?rest47
    case hy47 => intro w hSw; have hSc := At.cells hSw; go_simp; try with_reducible rfl
    try simp only [pS]
    refine wpAnyH_ready (rs := [1, 6, 7]) (by kernel_rfl) (by simp) ?_
    refine (AllReadyH.cons (o := _) rfl (fun K hK => ?_) (AllReadyH.cons (o := _) rfl (fun K hK => ?_) (AllReadyH.cons (o := _) rfl (fun K hK => ?_) AllReadyH.nil)))
    · go_simp
      refine (uh HH _ ((uh HA1).below (uh HS0).bel)).mono ?_; rintro e w1 ⟨⟨vh, rfl, da, ec, la, lc, hvh, -, -⟩, hb1⟩; subst hvh; have HS1 := hide ((uh HS0).step hb1); clear hb1
      go_wp2_with fail
      refine hK.out _ _ (by first | exact (uh HA1).below (uh HS1).bel | assumption | (dsimp only; assumption)) (fun hHeld2 => ?_)
      clear hK K
      try simp only [pS]
      refine wpAnyH_ready (rs := [6, 7]) (by kernel_rfl) (by simp) ?_
      refine (AllReadyH.cons (o := _) rfl (fun K hK => ?_) (AllReadyH.cons (o := _) rfl (fun K hK => ?_) AllReadyH.nil))
      · go_simp
        have HS2 := hide ((uh HS1).new1 [.int .u8 0, .int .i64 0, .int .i64 0, .int .i64 0, .int .i64 0, .int .i64 0, .slice none 0 0, .string ⟨#[]⟩, .slice none 0 0, .int .i64 0])
        go_wp2_with fail
        refine hK.out _ _ (by first | exact (uh HA1).below (uh HS2).bel | assumption | (dsimp only; assumption)) (fun hHeld2 => ?_)
        clear hK K
        try simp only [pS]
        obtain ⟨W2, e2⟩ := wOf HS2; rw [e2] at HS2 ⊢; clear e2
        refine wpAnyH_ready (rs := [7]) (by kernel_rfl) (by simp) ?_
        refine rc rfl fun K hK => ?_
        go_simp
        have HS3 := hide ((uh HS2).new2 [.int .u8 0, .string ⟨#[]⟩, .string ⟨#[]⟩, .int .i64 0, .int .i64 0, .int .i64 0, .int .i64 0, .slice none 0 0, .int .i64 0, .int .i64 0, .int .i64 0, .int .i64 0])
        go_wp2_with fail
        refine hK.out _ _ (by first | exact (uh HA1).below (uh HS3).bel | assumption | (dsimp only; assumption)) (fun hHeld2 => ?_)
        clear hK K
        try simp only [pS]
        obtain ⟨W3, e3⟩ := wOf HS3; rw [e3] at HS3 ⊢; clear e3
        refine wpAnyH_ready (rs := [8]) (by kernel_rfl) (by simp) ?_
        refine rc rfl fun K hK => ?_
        obtain ⟨y0, y1, y2, y3, y4, y5, y6, y7, y8, y9, z0, z1, z2, z3, z4, z5, z6, z7, z8, z9⟩ := look10 ((uh HS3).one _ _ rfl).2
        go_simp
        have HS4 := hide ((uh HS3).put1 (by decide) [.int .u8 (a.here.kind.toNat : Int), .int .i64 a.here.mode, .int .i64 a.here.user, .int .i64 a.here.group, .int .i64 a.here.links, .int .i64 a.here.time, .slice da a.here.data.length ec, .string a.here.target, .slice la a.here.list.length lc, .int .i64 a.here.parent] rfl); simp only [stores, Nat.zero_add, Nat.reduceAdd] at HS4
        go_wp2_with fail
        clear y0 y1 y2 y3 y4 y5 y6 y7 y8 y9 z0 z1 z2 z3 z4 z5 z6 z7 z8 z9
        refine hK.out _ _ (by first | exact (uh HA1).below (uh HS4).bel | assumption | (dsimp only; assumption)) (fun hHeld2 => ?_)
        clear hK K
        try simp only [pS]
        obtain ⟨W4, e4⟩ := wOf HS4; rw [e4] at HS4 ⊢; clear e4
        refine wpAnyH_ready (rs := [9]) (by kernel_rfl) (by simp) ?_
        refine rc rfl fun K hK => ?_
        obtain ⟨y0, y1, y2, y3, y4, y5, y6, y7, y8, y9, y10, y11, z0, z1, z2, z3, z4, z5, z6, z7, z8, z9, z10, z11⟩ := look12 ((uh HS4).two _ _ rfl).2
        go_simp
        have HS5 := hide ((uh HS4).put2 (by decide) [.int .u8 (a.c.kind.toNat : Int), .string a.c.path, .string a.c.other, .int .i64 a.c.mode, .int .i64 a.c.user, .int .i64 a.c.group, .int .i64 a.c.time, .slice dx a.c.data.length dc, .int .i64 a.c.env.user, .int .i64 a.c.env.group, .int .i64 a.c.env.mask, .int .i64 a.c.env.dir] rfl); simp only [stores, Nat.zero_add, Nat.reduceAdd] at HS5
        go_wp2_with fail
        clear y0 y1 y2 y3 y4 y5 y6 y7 y8 y9 y10 y11 z0 z1 z2 z3 z4 z5 z6 z7 z8 z9 z10 z11
        refine hK.out _ _ (by first | exact (uh HA1).below (uh HS5).bel | assumption | (dsimp only; assumption)) (fun hHeld2 => ?_)
        clear hK K
        try simp only [pS]
        refine wpAnyH_done (by kernel_rfl) ?_ _
        go_wp2_with fail
        go_meet
        exact ⟨_, _, da, ec, la, lc, rfl, rfl, hide (uh HS5)⟩
      · go_simp
        have HS6 := hide ((uh HS1).new2 [.int .u8 0, .string ⟨#[]⟩, .string ⟨#[]⟩, .int .i64 0, .int .i64 0, .int .i64 0, .int .i64 0, .slice none 0 0, .int .i64 0, .int .i64 0, .int .i64 0, .int .i64 0])
        go_wp2_with fail
        refine hK.out _ _ (by first | exact (uh HA1).below (uh HS6).bel | assumption | (dsimp only; assumption)) (fun hHeld2 => ?_)
        clear hK K
        try simp only [pS]
        obtain ⟨W6, e6⟩ := wOf HS6; rw [e6] at HS6 ⊢; clear e6
        refine wpAnyH_ready (rs := [6]) (by kernel_rfl) (by simp) ?_
        refine rc rfl fun K hK => ?_
        go_simp
        have HS7 := hide ((uh HS6).new1 [.int .u8 0, .int .i64 0, .int .i64 0, .int .i64 0, .int .i64 0, .int .i64 0, .slice none 0 0, .string ⟨#[]⟩, .slice none 0 0, .int .i64 0])
        go_wp2_with fail
        refine hK.out _ _ (by first | exact (uh HA1).below (uh HS7).bel | assumption | (dsimp only; assumption)) (fun hHeld2 => ?_)
        clear hK K
        try simp only [pS]
        obtain ⟨W7, e7⟩ := wOf HS7; rw [e7] at HS7 ⊢; clear e7
        refine wpAnyH_ready (rs := [8]) (by kernel_rfl) (by simp) ?_
        refine rc rfl fun K hK => ?_
        obtain ⟨y0, y1, y2, y3, y4, y5, y6, y7, y8, y9, z0, z1, z2, z3, z4, z5, z6, z7, z8, z9⟩ := look10 ((uh HS7).one _ _ rfl).2
        go_simp
        have HS8 := hide ((uh HS7).put1 (by decide) [.int .u8 (a.here.kind.toNat : Int), .int .i64 a.here.mode, .int .i64 a.here.user, .int .i64 a.here.group, .int .i64 a.here.links, .int .i64 a.here.time, .slice da a.here.data.length ec, .string a.here.target, .slice la a.here.list.length lc, .int .i64 a.here.parent] rfl); simp only [stores, Nat.zero_add, Nat.reduceAdd] at HS8
        go_wp2_with fail
        clear y0 y1 y2 y3 y4 y5 y6 y7 y8 y9 z0 z1 z2 z3 z4 z5 z6 z7 z8 z9
        refine hK.out _ _ (by first | exact (uh HA1).below (uh HS8).bel | assumption | (dsimp only; assumption)) (fun hHeld2 => ?_)
        clear hK K
        try simp only [pS]
        obtain ⟨W8, e8⟩ := wOf HS8; rw [e8] at HS8 ⊢; clear e8
        refine wpAnyH_ready (rs := [9]) (by kernel_rfl) (by simp) ?_
        refine rc rfl fun K hK => ?_
        obtain ⟨y0, y1, y2, y3, y4, y5, y6, y7, y8, y9, y10, y11, z0, z1, z2, z3, z4, z5, z6, z7, z8, z9, z10, z11⟩ := look12 ((uh HS8).two _ _ rfl).2
        go_simp
        have HS9 := hide ((uh HS8).put2 (by decide) [.int .u8 (a.c.kind.toNat : Int), .string a.c.path, .string a.c.other, .int .i64 a.c.mode, .int .i64 a.c.user, .int .i64 a.c.group, .int .i64 a.c.time, .slice dx a.c.data.length dc, .int .i64 a.c.env.user, .int .i64 a.c.env.group, .int .i64 a.c.env.mask, .int .i64 a.c.env.dir] rfl); simp only [stores, Nat.zero_add, Nat.reduceAdd] at HS9
        go_wp2_with fail
        clear y0 y1 y2 y3 y4 y5 y6 y7 y8 y9 y10 y11 z0 z1 z2 z3 z4 z5 z6 z7 z8 z9 z10 z11
        refine hK.out _ _ (by first | exact (uh HA1).below (uh HS9).bel | assumption | (dsimp only; assumption)) (fun hHeld2 => ?_)
        clear hK K
        try simp only [pS]
        refine wpAnyH_done (by kernel_rfl) ?_ _
        go_wp2_with fail
        go_meet
        exact ⟨_, _, da, ec, la, lc, rfl, rfl, hide (uh HS9)⟩
    · go_simp
      have HS10 := hide ((uh HS0).new1 [.int .u8 0, .int .i64 0, .int .i64 0, .int .i64 0, .int .i64 0, .int .i64 0, .slice none 0 0, .string ⟨#[]⟩, .slice none 0 0, .int .i64 0])
      go_wp2_with fail
      refine hK.out _ _ (by first | exact (uh HA1).below (uh HS10).bel | assumption | (dsimp only; assumption)) (fun hHeld2 => ?_)
      clear hK K
      try simp only [pS]
      obtain ⟨W10, e10⟩ := wOf HS10; rw [e10] at HS10 ⊢; clear e10
      refine wpAnyH_ready (rs := [1, 7]) (by kernel_rfl) (by simp) ?_
      refine (AllReadyH.cons (o := _) rfl (fun K hK => ?_) (AllReadyH.cons (o := _) rfl (fun K hK => ?_) AllReadyH.nil))
      · go_simp
        refine (uh HH _ ((uh HA1).below (uh HS10).bel)).mono ?_; rintro e w11 ⟨⟨vh, rfl, da, ec, la, lc, hvh, -, -⟩, hb11⟩; subst hvh; have HS11 := hide ((uh HS10).step hb11); clear hb11
        go_wp2_with fail
        refine hK.out _ _ (by first | exact (uh HA1).below (uh HS11).bel | assumption | (dsimp only; assumption)) (fun hHeld2 => ?_)
        clear hK K
        try simp only [pS]
        refine wpAnyH_ready (rs := [7]) (by kernel_rfl) (by simp) ?_
        refine rc rfl fun K hK => ?_
        go_simp
        have HS12 := hide ((uh HS11).new2 [.int .u8 0, .string ⟨#[]⟩, .string ⟨#[]⟩, .int .i64 0, .int .i64 0, .int .i64 0, .int .i64 0, .slice none 0 0, .int .i64 0, .int .i64 0, .int .i64 0, .int .i64 0])
        go_wp2_with fail
        refine hK.out _ _ (by first | exact (uh HA1).below (uh HS12).bel | assumption | (dsimp only; assumption)) (fun hHeld2 => ?_)
        clear hK K
        try simp only [pS]
        obtain ⟨W12, e12⟩ := wOf HS12; rw [e12] at HS12 ⊢; clear e12
        refine wpAnyH_ready (rs := [8]) (by kernel_rfl) (by simp) ?_
        refine rc rfl fun K hK => ?_
        obtain ⟨y0, y1, y2, y3, y4, y5, y6, y7, y8, y9, z0, z1, z2, z3, z4, z5, z6, z7, z8, z9⟩ := look10 ((uh HS12).one _ _ rfl).2
        go_simp
        have HS13 := hide ((uh HS12).put1 (by decide) [.int .u8 (a.here.kind.toNat : Int), .int .i64 a.here.mode, .int .i64 a.here.user, .int .i64 a.here.group, .int .i64 a.here.links, .int .i64 a.here.time, .slice da a.here.data.length ec, .string a.here.target, .slice la a.here.list.length lc, .int .i64 a.here.parent] rfl); simp only [stores, Nat.zero_add, Nat.reduceAdd] at HS13
        go_wp2_with fail
        clear y0 y1 y2 y3 y4 y5 y6 y7 y8 y9 z0 z1 z2 z3 z4 z5 z6 z7 z8 z9
        refine hK.out _ _ (by first | exact (uh HA1).below (uh HS13).bel | assumption | (dsimp only; assumption)) (fun hHeld2 => ?_)
        clear hK K
        try simp only [pS]
        obtain ⟨W13, e13⟩ := wOf HS13; rw [e13] at HS13 ⊢; clear e13
        refine wpAnyH_ready (rs := [9]) (by kernel_rfl) (by simp) ?_
        refine rc rfl fun K hK => ?_
        obtain ⟨y0, y1, y2, y3, y4, y5, y6, y7, y8, y9, y10, y11, z0, z1, z2, z3, z4, z5, z6, z7, z8, z9, z10, z11⟩ := look12 ((uh HS13).two _ _ rfl).2
        go_simp
        have HS14 := hide ((uh HS13).put2 (by decide) [.int .u8 (a.c.kind.toNat : Int), .string a.c.path, .string a.c.other, .int .i64 a.c.mode, .int .i64 a.c.user, .int .i64 a.c.group, .int .i64 a.c.time, .slice dx a.c.data.length dc, .int .i64 a.c.env.user, .int .i64 a.c.env.group, .int .i64 a.c.env.mask, .int .i64 a.c.env.dir] rfl); simp only [stores, Nat.zero_add, Nat.reduceAdd] at HS14
        go_wp2_with fail
        clear y0 y1 y2 y3 y4 y5 y6 y7 y8 y9 y10 y11 z0 z1 z2 z3 z4 z5 z6 z7 z8 z9 z10 z11
        refine hK.out _ _ (by first | exact (uh HA1).below (uh HS14).bel | assumption | (dsimp only; assumption)) (fun hHeld2 => ?_)
        clear hK K
        try simp only [pS]
        refine wpAnyH_done (by kernel_rfl) ?_ _
        go_wp2_with fail
        go_meet
        exact ⟨_, _, da, ec, la, lc, rfl, rfl, hide (uh HS14)⟩
      · go_simp
        have HS15 := hide ((uh HS10).new2 [.int .u8 0, .string ⟨#[]⟩, .string ⟨#[]⟩, .int .i64 0, .int .i64 0, .int .i64 0, .int .i64 0, .slice none 0 0, .int .i64 0, .int .i64 0, .int .i64 0, .int .i64 0])
        go_wp2_with fail
        refine hK.out _ _ (by first | exact (uh HA1).below (uh HS15).bel | assumption | (dsimp only; assumption)) (fun hHeld2 => ?_)
        clear hK K
        try simp only [pS]
        obtain ⟨W15, e15⟩ := wOf HS15; rw [e15] at HS15 ⊢; clear e15
        refine wpAnyH_ready (rs := [1]) (by kernel_rfl) (by simp) ?_
        refine rc rfl fun K hK => ?_
        go_simp
        refine (uh HH _ ((uh HA1).below (uh HS15).bel)).mono ?_; rintro e w16 ⟨⟨vh, rfl, da, ec, la, lc, hvh, -, -⟩, hb16⟩; subst hvh; have HS16 := hide ((uh HS15).step hb16); clear hb16
        go_wp2_with fail
        refine hK.out _ _ (by first | exact (uh HA1).below (uh HS16).bel | assumption | (dsimp only; assumption)) (fun hHeld2 => ?_)
        clear hK K
        try simp only [pS]
        refine wpAnyH_ready (rs := [8]) (by kernel_rfl) (by simp) ?_
        refine rc rfl fun K hK => ?_
        obtain ⟨y0, y1, y2, y3, y4, y5, y6, y7, y8, y9, z0, z1, z2, z3, z4, z5, z6, z7, z8, z9⟩ := look10 ((uh HS16).one _ _ rfl).2
        go_simp
        have HS17 := hide ((uh HS16).put1 (by decide) [.int .u8 (a.here.kind.toNat : Int), .int .i64 a.here.mode, .int .i64 a.here.user, .int .i64 a.here.group, .int .i64 a.here.links, .int .i64 a.here.time, .slice da a.here.data.length ec, .string a.here.target, .slice la a.here.list.length lc, .int .i64 a.here.parent] rfl); simp only [stores, Nat.zero_add, Nat.reduceAdd] at HS17
        go_wp2_with fail
        clear y0 y1 y2 y3 y4 y5 y6 y7 y8 y9 z0 z1 z2 z3 z4 z5 z6 z7 z8 z9
        refine hK.out _ _ (by first | exact (uh HA1).below (uh HS17).bel | assumption | (dsimp only; assumption)) (fun hHeld2 => ?_)
        clear hK K
        try simp only [pS]
        obtain ⟨W17, e17⟩ := wOf HS17; rw [e17] at HS17 ⊢; clear e17
        refine wpAnyH_ready (rs := [9]) (by kernel_rfl) (by simp) ?_
        refine rc rfl fun K hK => ?_
        obtain ⟨y0, y1, y2, y3, y4, y5, y6, y7, y8, y9, y10, y11, z0, z1, z2, z3, z4, z5, z6, z7, z8, z9, z10, z11⟩ := look12 ((uh HS17).two _ _ rfl).2
        go_simp
        have HS18 := hide ((uh HS17).put2 (by decide) [.int .u8 (a.c.kind.toNat : Int), .string a.c.path, .string a.c.other, .int .i64 a.c.mode, .int .i64 a.c.user, .int .i64 a.c.group, .int .i64 a.c.time, .slice dx a.c.data.length dc, .int .i64 a.c.env.user, .int .i64 a.c.env.group, .int .i64 a.c.env.mask, .int .i64 a.c.env.dir] rfl); simp only [stores, Nat.zero_add, Nat.reduceAdd] at HS18
        go_wp2_with fail
        clear y0 y1 y2 y3 y4 y5 y6 y7 y8 y9 y10 y11 z0 z1 z2 z3 z4 z5 z6 z7 z8 z9 z10 z11
        refine hK.out _ _ (by first | exact (uh HA1).below (uh HS18).bel | assumption | (dsimp only; assumption)) (fun hHeld2 => ?_)
        clear hK K
        try simp only [pS]
        refine wpAnyH_done (by kernel_rfl) ?_ _
        go_wp2_with fail
        go_meet
        exact ⟨_, _, da, ec, la, lc, rfl, rfl, hide (uh HS18)⟩
    · go_simp
      have HS19 := hide ((uh HS0).new2 [.int .u8 0, .string ⟨#[]⟩, .string ⟨#[]⟩, .int .i64 0, .int .i64 0, .int .i64 0, .int .i64 0, .slice none 0 0, .int .i64 0, .int .i64 0, .int .i64 0, .int .i64 0])
      go_wp2_with fail
      refine hK.out _ _ (by first | exact (uh HA1).below (uh HS19).bel | assumption | (dsimp only; assumption)) (fun hHeld2 => ?_)
      clear hK K
      try simp only [pS]
      obtain ⟨W19, e19⟩ := wOf HS19; rw [e19] at HS19 ⊢; clear e19
      refine wpAnyH_ready (rs := [1, 6]) (by kernel_rfl) (by simp) ?_
      refine (AllReadyH.cons (o := _) rfl (fun K hK => ?_) (AllReadyH.cons (o := _) rfl (fun K hK => ?_) AllReadyH.nil))
      · go_simp
        refine (uh HH _ ((uh HA1).below (uh HS19).bel)).mono ?_; rintro e w20 ⟨⟨vh, rfl, da, ec, la, lc, hvh, -, -⟩, hb20⟩; subst hvh; have HS20 := hide ((uh HS19).step hb20); clear hb20
        go_wp2_with fail
        refine hK.out _ _ (by first | exact (uh HA1).below (uh HS20).bel | assumption | (dsimp only; assumption)) (fun hHeld2 => ?_)
        clear hK K
        try simp only [pS]
        refine wpAnyH_ready (rs := [6]) (by kernel_rfl) (by simp) ?_
        refine rc rfl fun K hK => ?_
        go_simp
        have HS21 := hide ((uh HS20).new1 [.int .u8 0, .int .i64 0, .int .i64 0, .int .i64 0, .int .i64 0, .int .i64 0, .slice none 0 0, .string ⟨#[]⟩, .slice none 0 0, .int .i64 0])
        go_wp2_with fail
        refine hK.out _ _ (by first | exact (uh HA1).below (uh HS21).bel | assumption | (dsimp only; assumption)) (fun hHeld2 => ?_)
        clear hK K
        try simp only [pS]
        obtain ⟨W21, e21⟩ := wOf HS21; rw [e21] at HS21 ⊢; clear e21
        refine wpAnyH_ready (rs := [8]) (by kernel_rfl) (by simp) ?_
        refine rc rfl fun K hK => ?_
        obtain ⟨y0, y1, y2, y3, y4, y5, y6, y7, y8, y9, z0, z1, z2, z3, z4, z5, z6, z7, z8, z9⟩ := look10 ((uh HS21).one _ _ rfl).2
        go_simp
        have HS22 := hide ((uh HS21).put1 (by decide) [.int .u8 (a.here.kind.toNat : Int), .int .i64 a.here.mode, .int .i64 a.here.user, .int .i64 a.here.group, .int .i64 a.here.links, .int .i64 a.here.time, .slice da a.here.data.length ec, .string a.here.target, .slice la a.here.list.length lc, .int .i64 a.here.parent] rfl); simp only [stores, Nat.zero_add, Nat.reduceAdd] at HS22
        go_wp2_with fail
        clear y0 y1 y2 y3 y4 y5 y6 y7 y8 y9 z0 z1 z2 z3 z4 z5 z6 z7 z8 z9
        refine hK.out _ _ (by first | exact (uh HA1).below (uh HS22).bel | assumption | (dsimp only; assumption)) (fun hHeld2 => ?_)
        clear hK K
        try simp only [pS]
        obtain ⟨W22, e22⟩ := wOf HS22; rw [e22] at HS22 ⊢; clear e22
        refine wpAnyH_ready (rs := [9]) (by kernel_rfl) (by simp) ?_
        refine rc rfl fun K hK => ?_
        obtain ⟨y0, y1, y2, y3, y4, y5, y6, y7, y8, y9, y10, y11, z0, z1, z2, z3, z4, z5, z6, z7, z8, z9, z10, z11⟩ := look12 ((uh HS22).two _ _ rfl).2
        go_simp
        have HS23 := hide ((uh HS22).put2 (by decide) [.int .u8 (a.c.kind.toNat : Int), .string a.c.path, .string a.c.other, .int .i64 a.c.mode, .int .i64 a.c.user, .int .i64 a.c.group, .int .i64 a.c.time, .slice dx a.c.data.length dc, .int .i64 a.c.env.user, .int .i64 a.c.env.group, .int .i64 a.c.env.mask, .int .i64 a.c.env.dir] rfl); simp only [stores, Nat.zero_add, Nat.reduceAdd] at HS23
        go_wp2_with fail
        clear y0 y1 y2 y3 y4 y5 y6 y7 y8 y9 y10 y11 z0 z1 z2 z3 z4 z5 z6 z7 z8 z9 z10 z11
        refine hK.out _ _ (by first | exact (uh HA1).below (uh HS23).bel | assumption | (dsimp only; assumption)) (fun hHeld2 => ?_)
        clear hK K
        try simp only [pS]
        refine wpAnyH_done (by kernel_rfl) ?_ _
        go_wp2_with fail
        go_meet
        exact ⟨_, _, da, ec, la, lc, rfl, rfl, hide (uh HS23)⟩
      · go_simp
        have HS24 := hide ((uh HS19).new1 [.int .u8 0, .int .i64 0, .int .i64 0, .int .i64 0, .int .i64 0, .int .i64 0, .slice none 0 0, .string ⟨#[]⟩, .slice none 0 0, .int .i64 0])
        go_wp2_with fail
        refine hK.out _ _ (by first | exact (uh HA1).below (uh HS24).bel | assumption | (dsimp only; assumption)) (fun hHeld2 => ?_)
        clear hK K
        try simp only [pS]
        obtain ⟨W24, e24⟩ := wOf HS24; rw [e24] at HS24 ⊢; clear e24
        refine wpAnyH_ready (rs := [1]) (by kernel_rfl) (by simp) ?_
        refine rc rfl fun K hK => ?_
        go_simp
        refine (uh HH _ ((uh HA1).below (uh HS24).bel)).mono ?_; rintro e w25 ⟨⟨vh, rfl, da, ec, la, lc, hvh, -, -⟩, hb25⟩; subst hvh; have HS25 := hide ((uh HS24).step hb25); clear hb25
        go_wp2_with fail
        refine hK.out _ _ (by first | exact (uh HA1).below (uh HS25).bel | assumption | (dsimp only; assumption)) (fun hHeld2 => ?_)
        clear hK K
        try simp only [pS]
        refine wpAnyH_ready (rs := [8]) (by kernel_rfl) (by simp) ?_
        refine rc rfl fun K hK => ?_
        obtain ⟨y0, y1, y2, y3, y4, y5, y6, y7, y8, y9, z0, z1, z2, z3, z4, z5, z6, z7, z8, z9⟩ := look10 ((uh HS25).one _ _ rfl).2
        go_simp
        have HS26 := hide ((uh HS25).put1 (by decide) [.int .u8 (a.here.kind.toNat : Int), .int .i64 a.here.mode, .int .i64 a.here.user, .int .i64 a.here.group, .int .i64 a.here.links, .int .i64 a.here.time, .slice da a.here.data.length ec, .string a.here.target, .slice la a.here.list.length lc, .int .i64 a.here.parent] rfl); simp only [stores, Nat.zero_add, Nat.reduceAdd] at HS26
        go_wp2_with fail
        clear y0 y1 y2 y3 y4 y5 y6 y7 y8 y9 z0 z1 z2 z3 z4 z5 z6 z7 z8 z9
        refine hK.out _ _ (by first | exact (uh HA1).below (uh HS26).bel | assumption | (dsimp only; assumption)) (fun hHeld2 => ?_)
        clear hK K
        try simp only [pS]
        obtain ⟨W26, e26⟩ := wOf HS26; rw [e26] at HS26 ⊢; clear e26
        refine wpAnyH_ready (rs := [9]) (by kernel_rfl) (by simp) ?_
        refine rc rfl fun K hK => ?_
        obtain ⟨y0, y1, y2, y3, y4, y5, y6, y7, y8, y9, y10, y11, z0, z1, z2, z3, z4, z5, z6, z7, z8, z9, z10, z11⟩ := look12 ((uh HS26).two _ _ rfl).2
        go_simp
        have HS27 := hide ((uh HS26).put2 (by decide) [.int .u8 (a.c.kind.toNat : Int), .string a.c.path, .string a.c.other, .int .i64 a.c.mode, .int .i64 a.c.user, .int .i64 a.c.group, .int .i64 a.c.time, .slice dx a.c.data.length dc, .int .i64 a.c.env.user, .int .i64 a.c.env.group, .int .i64 a.c.env.mask, .int .i64 a.c.env.dir] rfl); simp only [stores, Nat.zero_add, Nat.reduceAdd] at HS27
        go_wp2_with fail
        clear y0 y1 y2 y3 y4 y5 y6 y7 y8 y9 y10 y11 z0 z1 z2 z3 z4 z5 z6 z7 z8 z9 z10 z11
        refine hK.out _ _ (by first | exact (uh HA1).below (uh HS27).bel | assumption | (dsimp only; assumption)) (fun hHeld2 => ?_)
        clear hK K
        try simp only [pS]
        refine wpAnyH_done (by kernel_rfl) ?_ _
        go_wp2_with fail
        go_meet
        exact ⟨_, _, da, ec, la, lc, rfl, rfl, hide (uh HS27)⟩
  case rest =>
    obtain ⟨nb, cb, da, ec, la, lc, rfl, rfl, HB⟩ := hcut
    have HIN : Hid (∀ W, Calls Tryz.prog 190 #[.agg (na a.here (.slice da a.here.data.length ec) (.slice la a.here.list.length lc))] W fun e w' => e = .returned (.bool (isN a.here)) ∧ Below W.heap.size W w') := fun W => isNone_val _ _ _ W
    have HOW : Hid (∀ W, Calls Tryz.prog 39 #[.agg (na a.here (.slice da a.here.data.length ec) (.slice la a.here.list.length lc)), .agg (ea a.c.env)] W fun e w' => e = .returned (.bool (ownsP a.here a.c.env)) ∧ Below W.heap.size W w') := fun W => owns_any a.here _ _ a.c.env W
    have HS : C2 wc A x n cap dx dc a nb a.here (.slice da a.here.data.length ec) (.slice la a.here.list.length lc) cb := ⟨⟨(uh HA1).below (uh HB).bel, ((uh HB).one _ _ rfl).2⟩, ((uh HB).two _ _ rfl).2⟩
    have HS0 : Hid (C2 wc.drew A x n cap dx dc a nb a.here (.slice da a.here.data.length ec) (.slice la a.here.list.length lc) cb) := HS.dr
    have BB0 : Hid (Below w1.heap.size w1 wc.drew) := below_dr (uh HB).bel
    clear HB HS HA1 HH
    go_upto_region 2 with fail
    go_cut [6, 7] (fun u v wx => u = .int .i64 tu ∧ v = .int .i64 tg ∧ Hid (C2 wx A x n cap dx dc a nb a.here (.slice da a.here.data.length ec) (.slice la a.here.list.length lc) cb) ∧ Hid (Below w1.heap.size w1 wx))
    case first =>
      go_wp2_with fail
      refine wp_region_held_drew (S := (fun w' => C2 w' A x n cap dx dc a nb a.here (.slice da a.here.data.length ec) (.slice la a.here.list.length lc) cb)) (by kernel_rfl) (uh HS0) (fun hHeld => ?_)
      refine tk 0 rfl (v := ?v243) (.inl ⟨by rfl, ?hy243⟩) ?rest243
      case hy243 => intro w hSw; have hSc := C2.fa hSw; go_simp; try with_reducible rfl
      try simp only [pS]
      refine tk 1 rfl (v := ?v244) (.inl ⟨by rfl, ?hy244⟩) ?rest244
      case hy244 => intro w hSw; have hSc := C2.fa hSw; go_simp; try with_reducible rfl
      try simp only [pS]
      refine tk 2 rfl (v := ?v245) (.inl ⟨by rfl, ?hy245⟩) ?rest245
      case hy245 => intro w hSw; have hSc := C2.fa hSw; go_simp; try with_reducible rfl
      try simp only [pS]
      refine tk 3 rfl (v := ?v246) (.inl ⟨by rfl, ?hy246⟩) ?rest246
      case hy246 => intro w hSw; have hSc := C2.fa hSw; go_simp; try with_reducible rfl
      try simp only [pS]
      refine tk 5 rfl (v := ?v247) (.inl ⟨by rfl, ?hy247⟩) ?rest247
      case hy247 => intro w hSw; have hSc := C2.fa hSw; go_simp; try with_reducible rfl
      try simp only [pS]
      refine tk 6 rfl (v := ?v248) (.inl ⟨by rfl, ?hy248⟩) ?rest248
      case hy248 => intro w hSw; have hSc := C2.fa hSw; go_simp; try with_reducible rfl
      try simp only [pS]
      refine tk 7 rfl (v := ?v249) (.inl ⟨by rfl, ?hy249⟩) ?rest249
      case hy249 => intro w hSw; have hSc := C2.fa hSw; go_simp; try with_reducible rfl
      try simp only [pS]
      refine tk 8 rfl (v := ?v250) (.inl ⟨by rfl, ?hy250⟩) ?rest250
      case hy250 => intro w hSw; have hSc := C2.fa hSw; go_simp; try with_reducible rfl
      try simp only [pS]
      refine wpAnyH_ready (rs := [4]) (by kernel_rfl) (by simp) ?_
      refine rc rfl fun K hK => ?_
      go_simp
      refine (told_any _ _ _).mono ?_; rintro e ww4 ⟨rfl, hw4⟩; subst hw4
      go_wp2_with fail
      refine hK.out _ _ (by first | exact (uh HS0) | assumption | (dsimp only; assumption)) (fun hHeld2 => ?_)
      clear hK K
      try simp only [pS]
      refine wpAnyH_ready (rs := [9]) (by kernel_rfl) (by simp) ?_
      refine rc rfl fun K hK => ?_
      go_simp
      refine (told_any _ _ _).mono ?_; rintro e ww9 ⟨rfl, hw9⟩; subst hw9
      go_wp2_with fail
      refine hK.out _ _ (by first | exact (uh HS0) | assumption | (dsimp only; assumption)) (fun hHeld2 => ?_)
      clear hK K
      try simp only [pS]
      refine tk 10 rfl (v := ?v251) (.inl ⟨by rfl, ?hy251⟩) ?rest251
      case hy251 => intro w hSw; have hSc := C2.fa hSw; go_simp; try with_reducible rfl
      try simp only [pS]
      refine tk 11 rfl (v := ?v252) (.inl ⟨by rfl, ?hy252⟩) ?rest252
      case hy252 => intro w hSw; have hSc := C2.fa hSw; go_simp; try with_reducible rfl
      try simp only [pS]
      refine wpAnyH_done (by kernel_rfl) ?_ _
      go_wp2_with fail
      go_meet
      exact ⟨by rw [uh hTU], by rw [uh hTG], uh HS0, uh BB0⟩
    case rest =>
    obtain ⟨rfl, rfl, HS, BB⟩ := hcut
    clear HS0 BB0
    go_upto_region 3 with fail
    go_cut [8] (fun u wx => u = .bool aw ∧ Hid (C2 wx A x n cap dx dc a nb a.here (.slice da a.here.data.length ec) (.slice la a.here.list.length lc) cb) ∧ Hid (Below w1.heap.size w1 wx))
    case first =>
      obtain ⟨-, c0, c1, c2, c3, c4, c5, c6, c7, c8, c9, k0, k1, k2, k3, k4, k5, k6, k7, k8, k9, k10, k11⟩ := C2.fa (uh HS)
      clear HPM HPN HIN HOW hTU hTG hER HK
      cases e1 : tu != a.here.user with
      | true =>
        go_wp2_with fail
        go_meet
        exact ⟨by rw [uh hAW, e1]; rfl, uh HS, uh BB⟩
      | false =>
        cases e2 : tg != a.here.group with
        | false =>
          go_wp2_with fail
          go_meet
          exact ⟨by rw [uh hAW, e1, e2]; rfl, uh HS, uh BB⟩
        | true =>
          go_wp2_with fail
          go_meet
          exact ⟨by rw [uh hAW, e1, e2]; rfl, uh HS, uh BB⟩
    case rest =>
    obtain ⟨rfl, HS, BB⟩ := hcut
    have HS0 : Hid (C2 wc.drew A x n cap dx dc a nb a.here (.slice da a.here.data.length ec) (.slice la a.here.list.length lc) cb) := (uh HS).dr
    have BB0 : Hid (Below w1.heap.size w1 wc.drew) := below_dr (uh BB)
    clear HS BB
    go_upto_region 4 with fail
    go_cut [8, 9] (fun _ u wx => u = .int .i64 er ∧ Hid (At wx A x n cap dx dc a) ∧ Hid (Below w1.heap.size w1 wx))
    case first =>
      clear HPM HPN hTU hTG hAW HK
      cases hE : a.c.env.user != 0 with
      | false =>
        go_wp2_with fail
        refine wp_region_held_drew (S := (fun w' => C2 w' A x n cap dx dc a nb a.here (.slice da a.here.data.length ec) (.slice la a.here.list.length lc) cb)) (by kernel_rfl) (uh HS0) (fun hHeld => ?_)
        refine tk 0 rfl (v := ?v253) (.inl ⟨by rfl, ?hy253⟩) ?rest253
        case hy253 => intro w hSw; have hSc := C2.fa hSw; go_simp; try with_reducible rfl
        try simp only [pS]
        refine tk 3 rfl (v := ?v254) (.inl ⟨by rfl, ?hy254⟩) ?rest254
        case hy254 => intro w hSw; have hSc := C2.fa hSw; go_simp; try with_reducible rfl
        try simp only [pS]
        refine tk 4 rfl (v := ?v255) (.inl ⟨by rfl, ?hy255⟩) ?rest255
        case hy255 => intro w hSw; have hSc := C2.fa hSw; go_simp; try with_reducible rfl
        try simp only [pS]
        refine tk 5 rfl (v := ?v256) (.inl ⟨by rfl, ?hy256⟩) ?rest256
        case hy256 => intro w hSw; have hSc := C2.fa hSw; go_simp; try with_reducible rfl
        try simp only [pS]
        refine tk 6 rfl (v := ?v257) (.inl ⟨by rfl, ?hy257⟩) ?rest257
        case hy257 => intro w hSw; have hSc := C2.fa hSw; go_simp; try with_reducible rfl
        try simp only [pS]
        refine wpAnyH_ready (rs := [1]) (by kernel_rfl) (by simp) ?_
        refine rc rfl fun K hK => ?_
        go_simp
        refine ((uh HIN _)).mono ?_; rintro e w1' ⟨rfl, hb1⟩; have HS1 := hide ((uh HS0).below hb1); have BB1 := hide ((uh BB0).trans (hb1.mono (uh BB0).size)); clear hb1
        go_wp2_with fail
        refine hK.out _ _ (by first | exact (uh HS1) | assumption | (dsimp only; assumption)) (fun hHeld2 => ?_)
        clear hK K
        try simp only [pS]
        refine wpAnyH_ready (rs := [2]) (by kernel_rfl) (by simp) ?_
        refine rc rfl fun K hK => ?_
        go_simp
        refine (when_any _ _ _).mono ?_; rintro e ww2 ⟨rfl, hw2⟩; subst hw2
        go_wp2_with fail
        refine hK.out _ _ (by first | exact (uh HS1) | assumption | (dsimp only; assumption)) (fun hHeld2 => ?_)
        clear hK K
        try simp only [pS]
        refine tk 7 rfl (v := ?v258) (.inl ⟨by rfl, ?hy258⟩) ?rest258
        case hy258 => intro w hSw; have hSc := C2.fa hSw; go_simp; try with_reducible rfl
        try simp only [pS]
        refine tk 8 rfl (v := undef) (.inr ⟨by rfl, rfl⟩) ?_
        try simp only [pS]
        refine tk 9 rfl (v := undef) (.inr ⟨by rfl, rfl⟩) ?_
        try simp only [pS]
        refine tk 10 rfl (v := undef) (.inr ⟨by rfl, rfl⟩) ?_
        try simp only [pS]
        refine tk 11 rfl (v := undef) (.inr ⟨by rfl, rfl⟩) ?_
        try simp only [pS]
        refine tk 12 rfl (v := undef) (.inr ⟨by rfl, rfl⟩) ?_
        try simp only [pS]
        refine tk 13 rfl (v := undef) (.inr ⟨by rfl, rfl⟩) ?_
        try simp only [pS]
        refine tk 14 rfl (v := undef) (.inr ⟨by rfl, rfl⟩) ?_
        try simp only [pS]
        refine tk 15 rfl (v := undef) (.inr ⟨by rfl, rfl⟩) ?_
        try simp only [pS]
        refine tk 16 rfl (v := ?v267) (.inl ⟨by rfl, ?hy267⟩) ?rest267
        case hy267 => intro w hSw; have hSc := C2.fa hSw; go_simp; try with_reducible rfl
        try simp only [pS]
        refine wpAnyH_ready (rs := [17]) (by kernel_rfl) (by simp) ?_
        refine rc rfl fun K hK => ?_
        go_simp
        refine (when_any _ _ _).mono ?_; rintro e ww17 ⟨rfl, hw17⟩; subst hw17
        go_wp2_with fail
        refine hK.out _ _ (by first | exact (uh HS1) | assumption | (dsimp only; assumption)) (fun hHeld2 => ?_)
        clear hK K
        try simp only [pS]
        refine wpAnyH_ready (rs := [18]) (by kernel_rfl) (by simp) ?_
        refine rc rfl fun K hK => ?_
        go_simp
        skip
        go_wp2_with fail
        refine hK.out _ _ (by first | exact ((uh HS1).al _) | assumption | (dsimp only; assumption)) (fun hHeld2 => ?_)
        clear hK K
        try simp only [pS]
        refine wpAnyH_ready (rs := [19]) (by kernel_rfl) (by simp) ?_
        refine rc rfl fun K hK => ?_
        go_simp
        refine (or2_any _ _ _ _ rfl).mono ?_; rintro e ww19 ⟨rfl, hw19⟩; subst hw19
        go_wp2_with fail
        refine hK.out _ _ (by first | exact ((uh HS1).al _) | assumption | (dsimp only; assumption)) (fun hHeld2 => ?_)
        clear hK K
        try simp only [pS]
        refine tk 20 rfl (v := ?v268) (.inl ⟨by rfl, ?hy268⟩) ?rest268
        case hy268 => intro w hSw; have hSc := C2.fa hSw; go_simp; try with_reducible rfl
        try simp only [pS]
        refine wpAnyH_done (by kernel_rfl) ?_ _
        go_wp2_with fail
        go_meet
        exact ⟨by rw [uh hER, hE]; first | rfl | simp, (((uh HS1).al _).inn).act, (uh BB1).alloc (uh BB1).size _⟩
      | true =>
        rcases (show aw = true ∨ aw = false by cases aw <;> simp) with hA | hA
        · go_wp2_with fail
          refine wp_region_held_drew (S := (fun w' => C2 w' A x n cap dx dc a nb a.here (.slice da a.here.data.length ec) (.slice la a.here.list.length lc) cb)) (by kernel_rfl) (uh HS0) (fun hHeld => ?_)
          refine tk 0 rfl (v := ?v269) (.inl ⟨by rfl, ?hy269⟩) ?rest269
          case hy269 => intro w hSw; have hSc := C2.fa hSw; go_simp; try with_reducible rfl
          try simp only [pS]
          refine tk 3 rfl (v := ?v270) (.inl ⟨by rfl, ?hy270⟩) ?rest270
          case hy270 => intro w hSw; have hSc := C2.fa hSw; go_simp; try with_reducible rfl
          try simp only [pS]
          refine tk 4 rfl (v := ?v271) (.inl ⟨by rfl, ?hy271⟩) ?rest271
          case hy271 => intro w hSw; have hSc := C2.fa hSw; go_simp; try with_reducible rfl
          try simp only [pS]
          refine tk 5 rfl (v := ?v272) (.inl ⟨by rfl, ?hy272⟩) ?rest272
          case hy272 => intro w hSw; have hSc := C2.fa hSw; go_simp; try with_reducible rfl
          try simp only [pS]
          refine tk 6 rfl (v := ?v273) (.inl ⟨by rfl, ?hy273⟩) ?rest273
          case hy273 => intro w hSw; have hSc := C2.fa hSw; go_simp; try with_reducible rfl
          try simp only [pS]
          refine wpAnyH_ready (rs := [1]) (by kernel_rfl) (by simp) ?_
          refine rc rfl fun K hK => ?_
          go_simp
          refine ((uh HIN _)).mono ?_; rintro e w1' ⟨rfl, hb1⟩; have HS1 := hide ((uh HS0).below hb1); have BB1 := hide ((uh BB0).trans (hb1.mono (uh BB0).size)); clear hb1
          go_wp2_with fail
          refine hK.out _ _ (by first | exact (uh HS1) | assumption | (dsimp only; assumption)) (fun hHeld2 => ?_)
          clear hK K
          try simp only [pS]
          refine wpAnyH_ready (rs := [2]) (by kernel_rfl) (by simp) ?_
          refine rc rfl fun K hK => ?_
          go_simp
          refine (when_any _ _ _).mono ?_; rintro e ww2 ⟨rfl, hw2⟩; subst hw2
          go_wp2_with fail
          refine hK.out _ _ (by first | exact (uh HS1) | assumption | (dsimp only; assumption)) (fun hHeld2 => ?_)
          clear hK K
          try simp only [pS]
          refine tk 7 rfl (v := ?v274) (.inl ⟨by rfl, ?hy274⟩) ?rest274
          case hy274 => intro w hSw; have hSc := C2.fa hSw; go_simp; try with_reducible rfl
          try simp only [pS]
          refine tk 8 rfl (v := ?v275) (.inl ⟨by rfl, ?hy275⟩) ?rest275
          case hy275 => intro w hSw; have hSc := C2.fa hSw; go_simp; try with_reducible rfl
          try simp only [pS]
          refine tk 9 rfl (v := ?v276) (.inl ⟨by rfl, ?hy276⟩) ?rest276
          case hy276 => intro w hSw; have hSc := C2.fa hSw; go_simp; try with_reducible rfl
          try simp only [pS]
          refine tk 10 rfl (v := undef) (.inr ⟨by rfl, rfl⟩) ?_
          try simp only [pS]
          refine tk 11 rfl (v := undef) (.inr ⟨by rfl, rfl⟩) ?_
          try simp only [pS]
          refine tk 12 rfl (v := undef) (.inr ⟨by rfl, rfl⟩) ?_
          try simp only [pS]
          refine tk 13 rfl (v := undef) (.inr ⟨by rfl, rfl⟩) ?_
          try simp only [pS]
          refine tk 14 rfl (v := undef) (.inr ⟨by rfl, rfl⟩) ?_
          try simp only [pS]
          refine tk 15 rfl (v := ?v282) (.inl ⟨by rfl, ?hy282⟩) ?rest282
          case hy282 => intro w hSw; have hSc := C2.fa hSw; go_simp; try with_reducible rfl
          try simp only [pS]
          refine tk 16 rfl (v := ?v283) (.inl ⟨by rfl, ?hy283⟩) ?rest283
          case hy283 => intro w hSw; have hSc := C2.fa hSw; go_simp; try with_reducible rfl
          try simp only [pS]
          refine wpAnyH_ready (rs := [17]) (by kernel_rfl) (by simp) ?_
          refine rc rfl fun K hK => ?_
          go_simp
          refine (when_any _ _ _).mono ?_; rintro e ww17 ⟨rfl, hw17⟩; subst hw17
          go_wp2_with fail
          refine hK.out _ _ (by first | exact (uh HS1) | assumption | (dsimp only; assumption)) (fun hHeld2 => ?_)
          clear hK K
          try simp only [pS]
          refine wpAnyH_ready (rs := [18]) (by kernel_rfl) (by simp) ?_
          refine rc rfl fun K hK => ?_
          go_simp
          skip
          go_wp2_with fail
          refine hK.out _ _ (by first | exact ((uh HS1).al _) | assumption | (dsimp only; assumption)) (fun hHeld2 => ?_)
          clear hK K
          try simp only [pS]
          refine wpAnyH_ready (rs := [19]) (by kernel_rfl) (by simp) ?_
          refine rc rfl fun K hK => ?_
          go_simp
          refine (or2_any _ _ _ _ rfl).mono ?_; rintro e ww19 ⟨rfl, hw19⟩; subst hw19
          go_wp2_with fail
          refine hK.out _ _ (by first | exact ((uh HS1).al _) | assumption | (dsimp only; assumption)) (fun hHeld2 => ?_)
          clear hK K
          try simp only [pS]
          refine tk 20 rfl (v := ?v284) (.inl ⟨by rfl, ?hy284⟩) ?rest284
          case hy284 => intro w hSw; have hSc := C2.fa hSw; go_simp; try with_reducible rfl
          try simp only [pS]
          refine wpAnyH_done (by kernel_rfl) ?_ _
          go_wp2_with fail
          go_meet
          exact ⟨by rw [uh hER, hE, hA]; first | rfl | simp, (((uh HS1).al _).inn).act, (uh BB1).alloc (uh BB1).size _⟩
        · go_wp2_with fail
          refine wp_region_held_drew (S := (fun w' => C2 w' A x n cap dx dc a nb a.here (.slice da a.here.data.length ec) (.slice la a.here.list.length lc) cb)) (by kernel_rfl) (uh HS0) (fun hHeld => ?_)
          refine tk 0 rfl (v := ?v285) (.inl ⟨by rfl, ?hy285⟩) ?rest285
          case hy285 => intro w hSw; have hSc := C2.fa hSw; go_simp; try with_reducible rfl
          try simp only [pS]
          refine tk 3 rfl (v := ?v286) (.inl ⟨by rfl, ?hy286⟩) ?rest286
          case hy286 => intro w hSw; have hSc := C2.fa hSw; go_simp; try with_reducible rfl
          try simp only [pS]
          refine tk 4 rfl (v := ?v287) (.inl ⟨by rfl, ?hy287⟩) ?rest287
          case hy287 => intro w hSw; have hSc := C2.fa hSw; go_simp; try with_reducible rfl
          try simp only [pS]
          refine tk 5 rfl (v := ?v288) (.inl ⟨by rfl, ?hy288⟩) ?rest288
          case hy288 => intro w hSw; have hSc := C2.fa hSw; go_simp; try with_reducible rfl
          try simp only [pS]
          refine tk 6 rfl (v := ?v289) (.inl ⟨by rfl, ?hy289⟩) ?rest289
          case hy289 => intro w hSw; have hSc := C2.fa hSw; go_simp; try with_reducible rfl
          try simp only [pS]
          refine wpAnyH_ready (rs := [1]) (by kernel_rfl) (by simp) ?_
          refine rc rfl fun K hK => ?_
          go_simp
          refine ((uh HIN _)).mono ?_; rintro e w1' ⟨rfl, hb1⟩; have HS1 := hide ((uh HS0).below hb1); have BB1 := hide ((uh BB0).trans (hb1.mono (uh BB0).size)); clear hb1
          go_wp2_with fail
          refine hK.out _ _ (by first | exact (uh HS1) | assumption | (dsimp only; assumption)) (fun hHeld2 => ?_)
          clear hK K
          try simp only [pS]
          refine wpAnyH_ready (rs := [2]) (by kernel_rfl) (by simp) ?_
          refine rc rfl fun K hK => ?_
          go_simp
          refine (when_any _ _ _).mono ?_; rintro e ww2 ⟨rfl, hw2⟩; subst hw2
          go_wp2_with fail
          refine hK.out _ _ (by first | exact (uh HS1) | assumption | (dsimp only; assumption)) (fun hHeld2 => ?_)
          clear hK K
          try simp only [pS]
          refine tk 7 rfl (v := ?v290) (.inl ⟨by rfl, ?hy290⟩) ?rest290
          case hy290 => intro w hSw; have hSc := C2.fa hSw; go_simp; try with_reducible rfl
          try simp only [pS]
          refine tk 8 rfl (v := ?v291) (.inl ⟨by rfl, ?hy291⟩) ?rest291
          case hy291 => intro w hSw; have hSc := C2.fa hSw; go_simp; try with_reducible rfl
          try simp only [pS]
          refine tk 9 rfl (v := ?v292) (.inl ⟨by rfl, ?hy292⟩) ?rest292
          case hy292 => intro w hSw; have hSc := C2.fa hSw; go_simp; try with_reducible rfl
          try simp only [pS]
          refine tk 10 rfl (v := ?v293) (.inl ⟨by rfl, ?hy293⟩) ?rest293
          case hy293 => intro w hSw; have hSc := C2.fa hSw; go_simp; try with_reducible rfl
          try simp only [pS]
          refine tk 11 rfl (v := ?v294) (.inl ⟨by rfl, ?hy294⟩) ?rest294
          case hy294 => intro w hSw; have hSc := C2.fa hSw; go_simp; try with_reducible rfl
          try simp only [pS]
          refine tk 12 rfl (v := ?v295) (.inl ⟨by rfl, ?hy295⟩) ?rest295
          case hy295 => intro w hSw; have hSc := C2.fa hSw; go_simp; try with_reducible rfl
          try simp only [pS]
          refine wpAnyH_ready (rs := [13]) (by kernel_rfl) (by simp) ?_
          refine rc rfl fun K hK => ?_
          go_simp
          refine ((uh HOW _)).mono ?_; rintro e w2' ⟨rfl, hb2⟩; have HS2 := hide ((uh HS1).below hb2); have BB2 := hide ((uh BB1).trans (hb2.mono (uh BB1).size)); clear hb2
          go_wp2_with fail
          refine hK.out _ _ (by first | exact (uh HS2) | assumption | (dsimp only; assumption)) (fun hHeld2 => ?_)
          clear hK K
          try simp only [pS]
          refine tk 14 rfl (v := ?v296) (.inl ⟨by rfl, ?hy296⟩) ?rest296
          case hy296 => intro w hSw; have hSc := C2.fa hSw; go_simp; try with_reducible rfl
          try simp only [pS]
          refine tk 15 rfl (v := ?v297) (.inl ⟨by rfl, ?hy297⟩) ?rest297
          case hy297 => intro w hSw; have hSc := C2.fa hSw; go_simp; try with_reducible rfl
          try simp only [pS]
          refine tk 16 rfl (v := ?v298) (.inl ⟨by rfl, ?hy298⟩) ?rest298
          case hy298 => intro w hSw; have hSc := C2.fa hSw; go_simp; try with_reducible rfl
          try simp only [pS]
          refine wpAnyH_ready (rs := [17]) (by kernel_rfl) (by simp) ?_
          refine rc rfl fun K hK => ?_
          go_simp
          refine (when_any _ _ _).mono ?_; rintro e ww17 ⟨rfl, hw17⟩; subst hw17
          go_wp2_with fail
          refine hK.out _ _ (by first | exact (uh HS2) | assumption | (dsimp only; assumption)) (fun hHeld2 => ?_)
          clear hK K
          try simp only [pS]
          refine wpAnyH_ready (rs := [18]) (by kernel_rfl) (by simp) ?_
          refine rc rfl fun K hK => ?_
          go_simp
          skip
          go_wp2_with fail
          refine hK.out _ _ (by first | exact ((uh HS2).al _) | assumption | (dsimp only; assumption)) (fun hHeld2 => ?_)
          clear hK K
          try simp only [pS]
          refine wpAnyH_ready (rs := [19]) (by kernel_rfl) (by simp) ?_
          refine rc rfl fun K hK => ?_
          go_simp
          refine (or2_any _ _ _ _ rfl).mono ?_; rintro e ww19 ⟨rfl, hw19⟩; subst hw19
          go_wp2_with fail
          refine hK.out _ _ (by first | exact ((uh HS2).al _) | assumption | (dsimp only; assumption)) (fun hHeld2 => ?_)
          clear hK K
          try simp only [pS]
          refine tk 20 rfl (v := ?v299) (.inl ⟨by rfl, ?hy299⟩) ?rest299
          case hy299 => intro w hSw; have hSc := C2.fa hSw; go_simp; try with_reducible rfl
          try simp only [pS]
          refine wpAnyH_done (by kernel_rfl) ?_ _
          go_wp2_with fail
          go_meet
          exact ⟨by rw [uh hER, hE, hA]; first | rfl | simp, (((uh HS2).al _).inn).act, (uh BB2).alloc (uh BB2).size _⟩
    case rest =>
    obtain ⟨rfl, HA, HBB⟩ := hcut
    rw [uh HW1] at HBB
    clear HS0 BB0 hER
    by_cases her : er = 0
    · have HK2 : Hid (RR = yes a.now (upd (upd a.ns a.p.node.toNat fun y => { y with user := tu }) a.p.node.toNat fun y => { y with group := tg })) := by show _ = _; rw [uh HK, if_neg (fun q => q her)]
      have hern : (er != 0) = false := by simpa using her
      subst her
      clear HK hern
      have HRB : Hid (w.heap.size < wc.heap.size) := by show _ < _; have := (uh HBB).size; simp at this; omega
      have HCP := hide (copy_any (uh HA))
      go_wp2_with fail
      refine (uh HCP).mono ?_
      rintro e w2 ⟨⟨D, v2, l2, rfl, hdf2, hm2⟩, hb2⟩
      have hl2 : l2.length = a.ns.length := by rw [← hm2, List.length_map]
      have hal := (uh HA).len
      obtain ⟨g, c, hvg⟩ := hdf2.at (by omega)
      subst hvg
      have hpn := uh HPN
      have hpl : pm < l2.length := by rw [hl2]; exact hpn
      have hpl2 : (pm : Int) < (l2.length : Int) := by omega
      have HPL := hide hpl
      have HD3 := hide ((hdf2.upd1 pm 2 (.int .i64 tu) (fun y => { y with user := tu }) hpl (by omega) (fun _ _ _ => .inl rfl) (fun _ => rfl) (fun _ => rfl)).dr)
      have CB3 : Hid (Below wc.heap.size wc (w2.setCell ⟨g, pm * 10 + 2, none⟩ (.int .i64 tu)).drew) := below_dr (hb2.setCell (p := ⟨g, pm * 10 + 2, none⟩) hdf2.ne.2.1 (.int .i64 tu))
      have HM3 : Hid ((updL l2 pm fun y => { y with user := tu }).map (·.1) = upd a.ns a.p.node.toNat fun y => { y with user := tu }) := by show _ = _; rw [updL_fst _ _ hpl, hm2, uh HPM]; rfl
      have HLL : Hid ((updL l2 pm fun y => { y with user := tu }).length = l2.length) := updL_len _ _ _
      generalize updL l2 pm (fun y => { y with user := tu }) = l3 at *
      obtain ⟨m2, dv2, lv2, hx2⟩ : ∃ m2 dv2 lv2, l2.getD pm zNv = (m2, dv2, lv2) := ⟨_, _, _, rfl⟩
      obtain ⟨n0, n1, n2, n3, n4, n5, n6, n7, n8, n9⟩ := hdf2.ten pm hpl hx2
      have fz := hdf2.frozen (pm * 10 + 2)
      obtain ⟨t0, t1, -⟩ := hdf2.cells
      have hv := ((uh HA).below hb2).cells
      rw [uh HPM] at hv
      clear hdf2 hm2 hb2 hl2 hal HCP hx2 hpn hpl
      go_wp2_with fail
      go_region
      go_upto_region 9 with fail
      obtain ⟨w4, hw4⟩ : ∃ w4, w4 = (w2.setCell ⟨g, pm * 10 + 2, none⟩ (.int .i64 tu)).drew := ⟨_, rfl⟩
      rw [← hw4]
      have HD4 : Hid (Df w4 wc.heap.size D a.now (.slice (some ⟨g, 0, none⟩) l2.length c) l3) := by rw [hw4]; exact (uh HD3)
      have CB4 : Hid (Below wc.heap.size wc w4) := by rw [hw4]; exact uh CB3
      clear HD3 CB3 hw4 n0 n1 n2 n3 n4 n5 n6 n7 n8 n9 fz t0 t1 hv
      have hpl3 : pm < l3.length := by rw [uh HLL]; exact uh HPL
      have HD5 := hide (((uh HD4).upd1 pm 3 (.int .i64 tg) (fun y => { y with group := tg }) hpl3 (by omega) (fun _ _ _ => .inl rfl) (fun _ => rfl) (fun _ => rfl)).dr)
      have CB5 : Hid (Below wc.heap.size wc (w4.setCell ⟨g, pm * 10 + 3, none⟩ (.int .i64 tg)).drew) := below_dr ((uh CB4).setCell (p := ⟨g, pm * 10 + 3, none⟩) (uh HD4).ne.2.1 (.int .i64 tg))
      have HM5 : Hid ((updL l3 pm fun y => { y with group := tg }).map (·.1) = upd (upd a.ns a.p.node.toNat fun y => { y with user := tu }) a.p.node.toNat fun y => { y with group := tg }) := by show _ = _; rw [updL_fst _ _ hpl3, uh HM3, uh HPM]; rfl
      generalize updL l3 pm (fun y => { y with group := tg }) = l5 at *
      obtain ⟨m3, dv3, lv3, hx3⟩ : ∃ m2 dv2 lv2, l3.getD pm zNv = (m2, dv2, lv2) := ⟨_, _, _, rfl⟩
      obtain ⟨n0, n1, n2, n3, n4, n5, n6, n7, n8, n9⟩ := (uh HD4).ten pm hpl3 hx3
      have fz := (uh HD4).frozen (pm * 10 + 3)
      obtain ⟨t0, t1, -⟩ := (uh HD4).cells
      have hv := ((uh HA).below (uh CB4)).cells
      rw [uh HPM] at hv
      clear hx3 hpl3 HM3 HLL HPL
      go_wp2_with fail
      go_region
      go_upto_region 10 with fail
      obtain ⟨w5, hw5⟩ : ∃ w5, w5 = (w4.setCell ⟨g, pm * 10 + 3, none⟩ (.int .i64 tg)).drew := ⟨_, rfl⟩
      rw [← hw5]
      have HD6 : Hid (Df w5 wc.heap.size D a.now (.slice (some ⟨g, 0, none⟩) l2.length c) l5) := by rw [hw5]; exact (uh HD5)
      have CB6 : Hid (Below wc.heap.size wc w5) := by rw [hw5]; exact uh CB5
      clear HD5 CB5 hw5 n0 n1 n2 n3 n4 n5 n6 n7 n8 n9 fz t0 t1 hv HD4 CB4
      have HBW := hide ((uh HBB).trans ((uh CB6).mono (by have := uh HRB; have := (uh HBB).size; omega)))
      obtain ⟨r0, r1, z0, z1⟩ := room_cells (uh HBW)
      obtain ⟨t0, t1, -⟩ := (uh HD6).cells
      have HDF := hide (((uh HD6).room (uh HRB) (.slice (some ⟨g, 0, none⟩) l2.length c) (.int .i64 a.now)).ot (Nat.le_of_lt (uh HRB)) (uh HM5))
      have HF := hide (room_below (uh HBW) (.slice (some ⟨g, 0, none⟩) l2.length c) (.int .i64 a.now))
      go_wp2_with fail
      refine bodyPost_ret (v := .tuple #[.agg #[.slice (some ⟨g, 0, none⟩) l2.length c, .int .i64 a.now], .int .i64 0]) (by simp [results, Tryz.results131, go_sem, r0, r1]) rfl ?_
      show DoR RR w _ _
      rw [uh HK2]
      exact ⟨⟨_, rfl, uh HDF⟩, uh HF⟩
    · have HRD := hide (room_cells (uh HBB))
      have HF := hide (room_below (uh HBB) (.slice none 0 0) (.int .i64 0))
      have HK2 : Hid (RR = no er) := by show _ = _; rw [uh HK, if_pos her]
      obtain ⟨r0, r1, z0, z1⟩ := uh HRD
      have hern : (er != 0) = true := by simpa using her
      clear HRD HK HBB HA
      go_wp2_with fail
      refine bodyPost_ret (v := .tuple #[.agg #[.slice none 0 0, .int .i64 0], .int .i64 er]) (by simp [results, Tryz.results131, go_sem, r0, r1]) rfl ?_
      show DoR RR w _ _
      rw [uh HK2]
      exact ⟨⟨_, rfl, ot_nil _ _⟩, uh HF⟩
end Go.Proofs.YtidhceebafmlkaaGreatDoor.Ca
