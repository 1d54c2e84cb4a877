import Derived.Test.YtidhceebafmlkaaGreatDoorCaStore2
import Derived.Test.YtidhceebafmlkaaGreatDoorCaTwo
namespace Go.Proofs.YtidhceebafmlkaaGreatDoor.Ca
open Go.RowKit Cu Tr Pm Pt
structure Fx (w0 : World) (x : Option Addr) (n cap : Nat) (dx : Option Addr) (dc : Nat) (now : Int) (ns : List Nd) (c : Cl) : Prop where
  ng : Ng w0 x n cap ns
  dat : By w0 dx c.data.length dc c.data
  tab : Rw w0
  chk : checkP now ns = true
  env : someP now ns c.env = true
  may : mayBeP c = true
  path : c.path.size ≤ 1000000000
  other : c.other.size ≤ 1000000000
section
variable {w0 W W' : World} {A : Nat} {x : Option Addr} {n cap : Nat} {dx : Option Addr} {dc : Nat} {now : Int} {ns : List Nd} {c : Cl} {p q : Pl} {ib cb : Nat}
theorem Fx.kind (h : Fx w0 x n cap dx dc now ns c) : c.kind.toNat < 13 := by
  have q := h.may
  unfold mayBeP at q
  simp only [Bool.and_eq_true, decide_eq_true_eq] at q
  exact q.1.1.1.1.1.1.1.2
structure Fd (w0 W : World) (A : Nat) (x : Option Addr) (n cap : Nat) (dx : Option Addr) (dc : Nat) (now : Int) (ns : List Nd) (c : Cl) (p q : Pl) : Prop where
  leA : w0.heap.size ≤ A
  bel : Below w0.heap.size w0 W
  box : W.heap[A]? = some (.cells (atA (.slice x n cap) ⟨now, ns, c, p, q⟩ (.slice dx c.data.length dc)) tyAct)
theorem Fd.below (h : Fd w0 W A x n cap dx dc now ns c p q) (hb : Below W.heap.size W W') : Fd w0 W' A x n cap dx dc now ns c p q :=
  ⟨h.leA, h.bel.trans (hb.mono h.bel.size), (hb.block _ (Array.getElem?_eq_some_iff.1 h.box).1).trans h.box⟩
theorem Fd.act (hx : Fx w0 x n cap dx dc now ns c) (h : Fd w0 W A x n cap dx dc now ns c p q) : At W A x n cap dx dc ⟨now, ns, c, p, q⟩ :=
  ⟨h.box, hx.ng.below h.bel, hx.dat.below h.bel, hx.chk, hx.env, hx.may⟩
theorem Fd.tab (hx : Fx w0 x n cap dx dc now ns c) (h : Fd w0 W A x n cap dx dc now ns c p q) : W.cell? ⟨1, c.kind.toNat * 3, none⟩ = some (.int .i64 ((rowOf c.kind).1 : Nat)) ∧ W.cell? ⟨1, c.kind.toNat * 3 + 1, none⟩ = some (.bool (rowOf c.kind).2.1) ∧ W.cell? ⟨1, c.kind.toNat * 3 + 2, none⟩ = some (.bool (rowOf c.kind).2.2) :=
  (hx.tab.below h.bel).tab c.kind hx.kind
theorem Fd.fzp (h : Fd w0 W A x n cap dx dc now ns c p q) : W.frozen? ⟨A, 14, none⟩ = false ∧ W.frozen? ⟨A, 15, none⟩ = false ∧ W.frozen? ⟨A, 16, none⟩ = false ∧ W.frozen? ⟨A, 17, none⟩ = false := by
  refine ⟨?_, ?_, ?_, ?_⟩ <;> simp [World.frozen?, h.box]
theorem Fd.fzq (h : Fd w0 W A x n cap dx dc now ns c p q) : W.frozen? ⟨A, 18, none⟩ = false ∧ W.frozen? ⟨A, 19, none⟩ = false ∧ W.frozen? ⟨A, 20, none⟩ = false ∧ W.frozen? ⟨A, 21, none⟩ = false := by
  refine ⟨?_, ?_, ?_, ?_⟩ <;> simp [World.frozen?, h.box]
theorem Fd.setp (h : Fd w0 W A x n cap dx dc now ns c p q) (p' : Pl) : Fd w0 ((((W.setCell ⟨A, 14, none⟩ (.int .i64 p'.dir)).setCell ⟨A, 15, none⟩ (.string p'.name)).setCell ⟨A, 16, none⟩ (.int .i64 p'.node)).setCell ⟨A, 17, none⟩ (.bool p'.dirs)) A x n cap dx dc now ns c p' q :=
  ⟨h.leA, (((h.bel.setCell (p := ⟨A, 14, none⟩) h.leA _).setCell (p := ⟨A, 15, none⟩) h.leA _).setCell (p := ⟨A, 16, none⟩) h.leA _).setCell (p := ⟨A, 17, none⟩) h.leA _,
    cell_set 17 _ _ _ rfl (cell_set 16 _ _ _ rfl (cell_set 15 _ _ _ rfl (cell_set 14 _ _ _ rfl h.box)))⟩
theorem Fd.setq (h : Fd w0 W A x n cap dx dc now ns c p q) (p' : Pl) : Fd w0 ((((W.setCell ⟨A, 18, none⟩ (.int .i64 p'.dir)).setCell ⟨A, 19, none⟩ (.string p'.name)).setCell ⟨A, 20, none⟩ (.int .i64 p'.node)).setCell ⟨A, 21, none⟩ (.bool p'.dirs)) A x n cap dx dc now ns c p p' :=
  ⟨h.leA, (((h.bel.setCell (p := ⟨A, 18, none⟩) h.leA _).setCell (p := ⟨A, 19, none⟩) h.leA _).setCell (p := ⟨A, 20, none⟩) h.leA _).setCell (p := ⟨A, 21, none⟩) h.leA _,
    cell_set 21 _ _ _ rfl (cell_set 20 _ _ _ rfl (cell_set 19 _ _ _ rfl (cell_set 18 _ _ _ rfl h.box)))⟩
structure Fb (w0 W : World) (A : Nat) (x : Option Addr) (n cap : Nat) (dx : Option Addr) (dc : Nat) (now : Int) (ns : List Nd) (c : Cl) (p q : Pl) (ib cb : Nat) : Prop where
  fd : Fd w0 W A x n cap dx dc now ns c p q
  ibox : W.heap[ib]? = some (.cells #[.int .i64 ((rowOf c.kind).1 : Nat), .bool (rowOf c.kind).2.1, .bool (rowOf c.kind).2.2] 132 (0, 0))
  cbox : W.heap[cb]? = some (.cells (clA c (.slice dx c.data.length dc)) 34 (0, 0))
theorem Fb.below (h : Fb w0 W A x n cap dx dc now ns c p q ib cb) (hb : Below W.heap.size W W') : Fb w0 W' A x n cap dx dc now ns c p q ib cb :=
  ⟨h.fd.below hb, (hb.block _ (Array.getElem?_eq_some_iff.1 h.ibox).1).trans h.ibox, (hb.block _ (Array.getElem?_eq_some_iff.1 h.cbox).1).trans h.cbox⟩
theorem Fb.dr (h : Fb w0 W A x n cap dx dc now ns c p q ib cb) : Fb w0 W.drew A x n cap dx dc now ns c p q ib cb := h.below (below_drew W 1)
theorem Fb.of (_hx : Fx w0 x n cap dx dc now ns c) {w : World} (h : Fd w0 w A x n cap dx dc now ns c p q) (hB : B2 w W 132 34 (some (ib, [.int .i64 ((rowOf c.kind).1 : Nat), .bool (rowOf c.kind).2.1, .bool (rowOf c.kind).2.2])) (some (cb, [.int .u8 (c.kind.toNat : Int), .string c.path, .string c.other, .int .i64 c.mode, .int .i64 c.user, .int .i64 c.group, .int .i64 c.time, .slice dx c.data.length dc, .int .i64 c.env.user, .int .i64 c.env.group, .int .i64 c.env.mask, .int .i64 c.env.dir]))) : Fb w0 W A x n cap dx dc now ns c p q ib cb :=
  ⟨h.below hB.bel, (hB.one _ _ rfl).2, (hB.two _ _ rfl).2⟩
theorem Fb.cells (h : Fb w0 W A x n cap dx dc now ns c p q ib cb) : W.cell? ⟨ib, 0, none⟩ = some (.int .i64 ((rowOf c.kind).1 : Nat)) ∧ W.cell? ⟨ib, 1, none⟩ = some (.bool (rowOf c.kind).2.1) ∧ W.cell? ⟨ib, 2, none⟩ = some (.bool (rowOf c.kind).2.2) ∧
    W.cell? ⟨cb, 0, none⟩ = some (.int .u8 (c.kind.toNat : Int)) ∧ W.cell? ⟨cb, 1, none⟩ = some (.string c.path) ∧ W.cell? ⟨cb, 2, none⟩ = some (.string c.other) ∧ W.cell? ⟨cb, 3, none⟩ = some (.int .i64 c.mode) ∧ W.cell? ⟨cb, 4, none⟩ = some (.int .i64 c.user) ∧ W.cell? ⟨cb, 5, none⟩ = some (.int .i64 c.group) ∧ W.cell? ⟨cb, 6, none⟩ = some (.int .i64 c.time) ∧ W.cell? ⟨cb, 7, none⟩ = some (.slice dx c.data.length dc) ∧ W.cell? ⟨cb, 8, none⟩ = some (.int .i64 c.env.user) ∧ W.cell? ⟨cb, 9, none⟩ = some (.int .i64 c.env.group) ∧ W.cell? ⟨cb, 10, none⟩ = some (.int .i64 c.env.mask) ∧ W.cell? ⟨cb, 11, none⟩ = some (.int .i64 c.env.dir) :=
  ⟨cell_of_row _ _ _ _ _ _ h.ibox, cell_of_row _ _ _ _ _ _ h.ibox, cell_of_row _ _ _ _ _ _ h.ibox, cl_cells h.cbox⟩
theorem Fb.other (h : Fb w0 W A x n cap dx dc now ns c p q ib cb) : ib ≠ A ∧ cb ≠ A := by
  refine ⟨fun e => ?_, fun e => ?_⟩
  · exact obj_ne h.ibox h.fd.box (by decide) e
  · exact obj_ne h.cbox h.fd.box (by decide) e
theorem Fb.setp (h : Fb w0 W A x n cap dx dc now ns c p q ib cb) (p' : Pl) : Fb w0 ((((W.setCell ⟨A, 14, none⟩ (.int .i64 p'.dir)).setCell ⟨A, 15, none⟩ (.string p'.name)).setCell ⟨A, 16, none⟩ (.int .i64 p'.node)).setCell ⟨A, 17, none⟩ (.bool p'.dirs)) A x n cap dx dc now ns c p' q ib cb := by
  obtain ⟨h1, h2⟩ := h.other
  refine ⟨h.fd.setp p', ?_, ?_⟩
  · iterate 4 rw [heap_setCell_other _ ⟨A, _, none⟩ _ _ h1]
    exact h.ibox
  · iterate 4 rw [heap_setCell_other _ ⟨A, _, none⟩ _ _ h2]
    exact h.cbox
theorem Fb.setq (h : Fb w0 W A x n cap dx dc now ns c p q ib cb) (p' : Pl) : Fb w0 ((((W.setCell ⟨A, 18, none⟩ (.int .i64 p'.dir)).setCell ⟨A, 19, none⟩ (.string p'.name)).setCell ⟨A, 20, none⟩ (.int .i64 p'.node)).setCell ⟨A, 21, none⟩ (.bool p'.dirs)) A x n cap dx dc now ns c p p' ib cb := by
  obtain ⟨h1, h2⟩ := h.other
  refine ⟨h.fd.setq p', ?_, ?_⟩
  · iterate 4 rw [heap_setCell_other _ ⟨A, _, none⟩ _ _ h1]
    exact h.ibox
  · iterate 4 rw [heap_setCell_other _ ⟨A, _, none⟩ _ _ h2]
    exact h.cbox
end
theorem oth_at : ∀ k, k < 13 → (bits .and .i64 ((rowOf (UInt8.ofNat k)).1 : Int) 2 != 0) = decide (UInt8.ofNat k = 6 ∨ UInt8.ofNat k = 7 ∨ UInt8.ofNat k = 8) := by decide +kernel
theorem oth_is (k : UInt8) (h : k.toNat < 13) : (bits .and .i64 ((rowOf k).1 : Int) 2 != 0) = decide (k = 6 ∨ k = 7 ∨ k = 8) := by
  have := oth_at k.toNat h
  rwa [UInt8.ofNat_toNat] at this
section
variable {now : Int} {ns : List Nd} {c : Cl} {r : Pl × Int}
theorem fb_err (hr : r = if (rowOf c.kind).2.1 then findA now ns c.env c.path (rowOf c.kind).2.2 else (pz, 0)) (h : r.2 ≠ 0) : findBoth now ns c = ((r.1, pz), r.2) := by
  unfold findBoth
  simp only
  rw [← hr, if_pos h]
theorem fb_no (hr : r = if (rowOf c.kind).2.1 then findA now ns c.env c.path (rowOf c.kind).2.2 else (pz, 0)) (h : r.2 = 0) (ho : decide (c.kind = 6 ∨ c.kind = 7 ∨ c.kind = 8) = false) : findBoth now ns c = ((r.1, pz), 0) := by
  unfold findBoth
  simp only
  rw [← hr, if_neg (fun q => q h), if_neg (of_decide_eq_false ho)]
theorem fb_oth (hr : r = if (rowOf c.kind).2.1 then findA now ns c.env c.path (rowOf c.kind).2.2 else (pz, 0)) (h : r.2 = 0) (ho : decide (c.kind = 6 ∨ c.kind = 7 ∨ c.kind = 8) = true) : findBoth now ns c = ((r.1, (findA now ns c.env c.other false).1), (findA now ns c.env c.other false).2) := by
  unfold findBoth
  simp only
  rw [← hr, if_neg (fun q => q h), if_pos (of_decide_eq_true ho)]
end
set_option maxRecDepth 100000 in
set_option maxHeartbeats 4000000 in
theorem find_any (w0 : World) (A : Nat) (x : Option Addr) (n cap : Nat) (dx : Option Addr) (dc : Nat) (now : Int) (ns : List Nd) (c : Cl) (w : World) (hx : Fx w0 x n cap dx dc now ns c) (h : Fd w0 w A x n cap dx dc now ns c pz pz) :
    Calls Tryz.prog 49 #[.pointer (some ⟨A, 0, none⟩)] w fun e w' => e = .returned (.int .i64 (findBoth now ns c).2) ∧ Fd w0 w' A x n cap dx dc now ns c (findBoth now ns c).1.1 (findBoth now ns c).1.2 := by
  have hk13 : (c.kind.toNat : Int) < 13 := by have := hx.kind; omega
  have HOT := hide (oth_is c.kind hx.kind)
  have HX := hide hx
  have HA1 := hide h
  have HFP : Hid (∀ W s f, Below w0.heap.size w0 W → s.size ≤ 1000000000 → Calls Tryz.prog 121 #[.agg #[.slice x n cap, .int .i64 now], .agg (ea c.env), .string s, .bool f] W fun r w' => r = .returned (.tuple #[.agg (pv (findA now ns c.env s f).1), .int .i64 (findA now ns c.env s f).2]) ∧ Below W.heap.size W w') := fun W s f hW hs => findP_any x n cap ns now c.env s f W (hx.ng.below hW) (sm_of hx.chk) hs
  have HS0 : Hid (B2 w w.drew 132 34 none none) := B2.start
  clear h hx
  go_enter Tryz.func49, Tryz.ntmps49
  go_upto_region 1 with fail
  go_cut [3, 4] (fun u v wx => ∃ ib cb, u = .pointer (some ⟨ib, 0, none⟩) ∧ v = .pointer (some ⟨cb, 0, none⟩) ∧ Fb w0 wx A x n cap dx dc now ns c pz pz ib cb)
  case first =>
    go_wp2_with fail
    refine wp_region_held_drew (S := (fun w' => Fd w0 w' A x n cap dx dc now ns c pz pz)) (by kernel_rfl) ((uh HA1).below (uh HS0).bel) (fun hHeld => ?_)
    obtain ⟨W0, e0⟩ := wOf HS0; rw [e0] at HS0 hHeld ⊢; clear e0
    refine tk 0 rfl (v := ?v416) (.inl ⟨by rfl, ?hy416⟩) ?rest416
    case hy416 => intro w hSw; have hSc := At.cells (Fd.act (uh HX) hSw); obtain ⟨r0, r1, r2⟩ := Fd.tab (uh HX) hSw; go_simp; try with_reducible rfl
    try simp only [pS]
    refine tk 1 rfl (v := ?v417) (.inl ⟨by rfl, ?hy417⟩) ?rest417
    case hy417 => intro w hSw; have hSc := At.cells (Fd.act (uh HX) hSw); obtain ⟨r0, r1, r2⟩ := Fd.tab (uh HX) hSw; go_simp; try with_reducible rfl
    try simp only [pS]
    refine tk 2 rfl (v := ?v418) (.inl ⟨by rfl, ?hy418⟩) ?rest418
    case hy418 => intro w hSw; have hSc := At.cells (Fd.act (uh HX) hSw); obtain ⟨r0, r1, r2⟩ := Fd.tab (uh HX) hSw; go_simp; try with_reducible rfl
    try simp only [pS]
    refine tk 3 rfl (v := ?v419) (.inl ⟨by rfl, ?hy419⟩) ?rest419
    case hy419 => intro w hSw; have hSc := At.cells (Fd.act (uh HX) hSw); obtain ⟨r0, r1, r2⟩ := Fd.tab (uh HX) hSw; go_simp; try with_reducible rfl
    try simp only [pS]
    refine tk 4 rfl (v := ?v420) (.inl ⟨by rfl, ?hy420⟩) ?rest420
    case hy420 => intro w hSw; have hSc := At.cells (Fd.act (uh HX) hSw); obtain ⟨r0, r1, r2⟩ := Fd.tab (uh HX) hSw; go_simp; try with_reducible rfl
    try simp only [pS]
    refine tk 5 rfl (v := ?v421) (.inl ⟨by rfl, ?hy421⟩) ?rest421
    case hy421 => intro w hSw; have hSc := At.cells (Fd.act (uh HX) hSw); obtain ⟨r0, r1, r2⟩ := Fd.tab (uh HX) hSw; go_simp; try with_reducible rfl
    try simp only [pS]
    refine tk 6 rfl (v := ?v422) (.inl ⟨by rfl, ?hy422⟩) ?rest422
    case hy422 => intro w hSw; have hSc := At.cells (Fd.act (uh HX) hSw); obtain ⟨r0, r1, r2⟩ := Fd.tab (uh HX) hSw; go_simp; try with_reducible rfl
    try simp only [pS]
    refine tk 7 rfl (v := ?v423) (.inl ⟨by rfl, ?hy423⟩) ?rest423
    case hy423 => intro w hSw; have hSc := At.cells (Fd.act (uh HX) hSw); obtain ⟨r0, r1, r2⟩ := Fd.tab (uh HX) hSw; go_simp; try with_reducible rfl
    try simp only [pS]
    refine tk 8 rfl (v := ?v424) (.inl ⟨by rfl, ?hy424⟩) ?rest424
    case hy424 => intro w hSw; have hSc := At.cells (Fd.act (uh HX) hSw); obtain ⟨r0, r1, r2⟩ := Fd.tab (uh HX) hSw; go_simp; try with_reducible rfl
    try simp only [pS]
    refine tk 9 rfl (v := ?v425) (.inl ⟨by rfl, ?hy425⟩) ?rest425
    case hy425 => intro w hSw; have hSc := At.cells (Fd.act (uh HX) hSw); obtain ⟨r0, r1, r2⟩ := Fd.tab (uh HX) hSw; go_simp; try with_reducible rfl
    try simp only [pS]
    refine tk 10 rfl (v := ?v426) (.inl ⟨by rfl, ?hy426⟩) ?rest426
    case hy426 => intro w hSw; have hSc := At.cells (Fd.act (uh HX) hSw); obtain ⟨r0, r1, r2⟩ := Fd.tab (uh HX) hSw; go_simp; try with_reducible rfl
    try simp only [pS]
    refine wpAnyH_ready (rs := [11, 12]) (by kernel_rfl) (by simp) ?_
    refine (AllReadyH.cons (o := _) rfl (fun K hK => ?_) (AllReadyH.cons (o := _) rfl (fun K hK => ?_) AllReadyH.nil))
    · go_simp
      have HS1 := hide ((uh HS0).new1 [.int .i64 0, .bool false, .bool false])
      go_wp2_with fail
      refine hK.out _ _ (by first | exact (uh HA1).below (uh HS1).bel | assumption | (dsimp only; assumption)) (fun hHeld2 => ?_)
      clear hK K
      try simp only [pS]
      obtain ⟨W1, e1⟩ := wOf HS1; rw [e1] at HS1 ⊢; clear e1
      refine wpAnyH_ready (rs := [12]) (by kernel_rfl) (by simp) ?_
      refine rc rfl fun K hK => ?_
      go_simp
      have HS2 := hide ((uh HS1).new2 [.int .u8 0, .string ⟨#[]⟩, .string ⟨#[]⟩, .int .i64 0, .int .i64 0, .int .i64 0, .int .i64 0, .slice none 0 0, .int .i64 0, .int .i64 0, .int .i64 0, .int .i64 0])
      go_wp2_with fail
      refine hK.out _ _ (by first | exact (uh HA1).below (uh HS2).bel | assumption | (dsimp only; assumption)) (fun hHeld2 => ?_)
      clear hK K
      try simp only [pS]
      obtain ⟨W2, e2⟩ := wOf HS2; rw [e2] at HS2 ⊢; clear e2
      refine wpAnyH_ready (rs := [13]) (by kernel_rfl) (by simp) ?_
      refine rc rfl fun K hK => ?_
      obtain ⟨y0, y1, y2, z0, z1, z2⟩ := look3 ((uh HS2).one _ _ rfl).2
      go_simp
      have HS3 := hide ((uh HS2).put1 (by decide) [.int .i64 ((rowOf c.kind).1 : Nat), .bool (rowOf c.kind).2.1, .bool (rowOf c.kind).2.2] rfl); simp only [stores, Nat.zero_add, Nat.reduceAdd] at HS3
      go_wp2_with fail
      clear y0 y1 y2 z0 z1 z2
      refine hK.out _ _ (by first | exact (uh HA1).below (uh HS3).bel | assumption | (dsimp only; assumption)) (fun hHeld2 => ?_)
      clear hK K
      try simp only [pS]
      obtain ⟨W3, e3⟩ := wOf HS3; rw [e3] at HS3 ⊢; clear e3
      refine wpAnyH_ready (rs := [14]) (by kernel_rfl) (by simp) ?_
      refine rc rfl fun K hK => ?_
      obtain ⟨y0, y1, y2, y3, y4, y5, y6, y7, y8, y9, y10, y11, z0, z1, z2, z3, z4, z5, z6, z7, z8, z9, z10, z11⟩ := look12 ((uh HS3).two _ _ rfl).2
      go_simp
      have HS4 := hide ((uh HS3).put2 (by decide) [.int .u8 (c.kind.toNat : Int), .string c.path, .string c.other, .int .i64 c.mode, .int .i64 c.user, .int .i64 c.group, .int .i64 c.time, .slice dx c.data.length dc, .int .i64 c.env.user, .int .i64 c.env.group, .int .i64 c.env.mask, .int .i64 c.env.dir] rfl); simp only [stores, Nat.zero_add, Nat.reduceAdd] at HS4
      go_wp2_with fail
      clear y0 y1 y2 y3 y4 y5 y6 y7 y8 y9 y10 y11 z0 z1 z2 z3 z4 z5 z6 z7 z8 z9 z10 z11
      refine hK.out _ _ (by first | exact (uh HA1).below (uh HS4).bel | assumption | (dsimp only; assumption)) (fun hHeld2 => ?_)
      clear hK K
      try simp only [pS]
      refine wpAnyH_done (by kernel_rfl) ?_ _
      go_wp2_with fail
      go_meet
      exact ⟨_, _, rfl, rfl, Fb.of (uh HX) (uh HA1) (uh HS4)⟩
    · go_simp
      have HS5 := hide ((uh HS0).new2 [.int .u8 0, .string ⟨#[]⟩, .string ⟨#[]⟩, .int .i64 0, .int .i64 0, .int .i64 0, .int .i64 0, .slice none 0 0, .int .i64 0, .int .i64 0, .int .i64 0, .int .i64 0])
      go_wp2_with fail
      refine hK.out _ _ (by first | exact (uh HA1).below (uh HS5).bel | assumption | (dsimp only; assumption)) (fun hHeld2 => ?_)
      clear hK K
      try simp only [pS]
      obtain ⟨W5, e5⟩ := wOf HS5; rw [e5] at HS5 ⊢; clear e5
      refine wpAnyH_ready (rs := [11]) (by kernel_rfl) (by simp) ?_
      refine rc rfl fun K hK => ?_
      go_simp
      have HS6 := hide ((uh HS5).new1 [.int .i64 0, .bool false, .bool false])
      go_wp2_with fail
      refine hK.out _ _ (by first | exact (uh HA1).below (uh HS6).bel | assumption | (dsimp only; assumption)) (fun hHeld2 => ?_)
      clear hK K
      try simp only [pS]
      obtain ⟨W6, e6⟩ := wOf HS6; rw [e6] at HS6 ⊢; clear e6
      refine wpAnyH_ready (rs := [13]) (by kernel_rfl) (by simp) ?_
      refine rc rfl fun K hK => ?_
      obtain ⟨y0, y1, y2, z0, z1, z2⟩ := look3 ((uh HS6).one _ _ rfl).2
      go_simp
      have HS7 := hide ((uh HS6).put1 (by decide) [.int .i64 ((rowOf c.kind).1 : Nat), .bool (rowOf c.kind).2.1, .bool (rowOf c.kind).2.2] rfl); simp only [stores, Nat.zero_add, Nat.reduceAdd] at HS7
      go_wp2_with fail
      clear y0 y1 y2 z0 z1 z2
      refine hK.out _ _ (by first | exact (uh HA1).below (uh HS7).bel | assumption | (dsimp only; assumption)) (fun hHeld2 => ?_)
      clear hK K
      try simp only [pS]
      obtain ⟨W7, e7⟩ := wOf HS7; rw [e7] at HS7 ⊢; clear e7
      refine wpAnyH_ready (rs := [14]) (by kernel_rfl) (by simp) ?_
      refine rc rfl fun K hK => ?_
      obtain ⟨y0, y1, y2, y3, y4, y5, y6, y7, y8, y9, y10, y11, z0, z1, z2, z3, z4, z5, z6, z7, z8, z9, z10, z11⟩ := look12 ((uh HS7).two _ _ rfl).2
      go_simp
      have HS8 := hide ((uh HS7).put2 (by decide) [.int .u8 (c.kind.toNat : Int), .string c.path, .string c.other, .int .i64 c.mode, .int .i64 c.user, .int .i64 c.group, .int .i64 c.time, .slice dx c.data.length dc, .int .i64 c.env.user, .int .i64 c.env.group, .int .i64 c.env.mask, .int .i64 c.env.dir] rfl); simp only [stores, Nat.zero_add, Nat.reduceAdd] at HS8
      go_wp2_with fail
      clear y0 y1 y2 y3 y4 y5 y6 y7 y8 y9 y10 y11 z0 z1 z2 z3 z4 z5 z6 z7 z8 z9 z10 z11
      refine hK.out _ _ (by first | exact (uh HA1).below (uh HS8).bel | assumption | (dsimp only; assumption)) (fun hHeld2 => ?_)
      clear hK K
      try simp only [pS]
      refine wpAnyH_done (by kernel_rfl) ?_ _
      go_wp2_with fail
      go_meet
      exact ⟨_, _, rfl, rfl, Fb.of (uh HX) (uh HA1) (uh HS8)⟩
  case rest =>
  obtain ⟨ib, cb, rfl, rfl, hF⟩ := hcut
  have HF := hide hF
  clear hF HS0 HA1
  go_upto_region 3 with fail
  obtain ⟨RR, hRR⟩ : ∃ RR, RR = (if (rowOf c.kind).2.1 then findA now ns c.env c.path (rowOf c.kind).2.2 else (pz, 0)) := ⟨_, rfl⟩
  have HRR := hide hRR
  cases hL : (rowOf c.kind).2.1 with
  | false =>
    rw [hL, if_neg (by decide)] at hRR
    subst hRR
    have HZ1 : Hid ((pz, (0 : Int)).2 = 0) := rfl
    obtain ⟨i0, i1, i2, k0, k1, k2, k3, k4, k5, k6, k7, k8, k9, k10, k11⟩ := Fb.cells (uh HF)
    cases hO : (bits .and .i64 ((rowOf c.kind).1 : Int) 2 != 0) with
    | false =>
      have HB := hide (fb_no (uh HRR) rfl ((uh HOT).symm.trans hO))
      go_wp2_with fail
      go_ret
      exact ⟨by rw [uh HB]; first | done | rfl | (show Ending.returned (Value.int .i64 RR.2) = _; rw [hz]), by rw [uh HB]; exact (uh HF).fd⟩
    | true =>
      obtain ⟨RS, hSR⟩ : ∃ RS, RS = findA now ns c.env c.other false := ⟨_, rfl⟩
      have HSR := hide hSR
      clear hSR
      have HB := hide (fb_oth (uh HRR) (uh HZ1) ((uh HOT).symm.trans hO))
      rw [← uh HSR] at HB
      have HS0 : Hid (Fb w0 wc.drew A x n cap dx dc now ns c pz pz ib cb) := (uh HF).dr
      clear HF
      go_wp2_with fail
      refine wp_region_held_drew (S := (fun w' => ∃ p' q', Fb w0 w' A x n cap dx dc now ns c p' q' ib cb)) (by kernel_rfl) ⟨_, _, uh HS0⟩ (fun hHeld => ?_)
      refine tk 0 rfl (v := ?v442) (.inl ⟨by rfl, ?hy442⟩) ?rest442
      case hy442 => intro w hSw; obtain ⟨p', q', hF⟩ := hSw; have hSc := At.cells (Fd.act (uh HX) hF.fd); have hSd := Fb.cells hF; go_simp; try with_reducible rfl
      try simp only [pS]
      refine tk 1 rfl (v := ?v443) (.inl ⟨by rfl, ?hy443⟩) ?rest443
      case hy443 => intro w hSw; obtain ⟨p', q', hF⟩ := hSw; have hSc := At.cells (Fd.act (uh HX) hF.fd); have hSd := Fb.cells hF; go_simp; try with_reducible rfl
      try simp only [pS]
      refine tk 2 rfl (v := ?v444) (.inl ⟨by rfl, ?hy444⟩) ?rest444
      case hy444 => intro w hSw; obtain ⟨p', q', hF⟩ := hSw; have hSc := At.cells (Fd.act (uh HX) hF.fd); have hSd := Fb.cells hF; go_simp; try with_reducible rfl
      try simp only [pS]
      refine tk 3 rfl (v := ?v445) (.inl ⟨by rfl, ?hy445⟩) ?rest445
      case hy445 => intro w hSw; obtain ⟨p', q', hF⟩ := hSw; have hSc := At.cells (Fd.act (uh HX) hF.fd); have hSd := Fb.cells hF; go_simp; try with_reducible rfl
      try simp only [pS]
      refine tk 4 rfl (v := ?v446) (.inl ⟨by rfl, ?hy446⟩) ?rest446
      case hy446 => intro w hSw; obtain ⟨p', q', hF⟩ := hSw; have hSc := At.cells (Fd.act (uh HX) hF.fd); have hSd := Fb.cells hF; go_simp; try with_reducible rfl
      try simp only [pS]
      refine tk 5 rfl (v := ?v447) (.inl ⟨by rfl, ?hy447⟩) ?rest447
      case hy447 => intro w hSw; obtain ⟨p', q', hF⟩ := hSw; have hSc := At.cells (Fd.act (uh HX) hF.fd); have hSd := Fb.cells hF; go_simp; try with_reducible rfl
      try simp only [pS]
      refine tk 6 rfl (v := ?v448) (.inl ⟨by rfl, ?hy448⟩) ?rest448
      case hy448 => intro w hSw; obtain ⟨p', q', hF⟩ := hSw; have hSc := At.cells (Fd.act (uh HX) hF.fd); have hSd := Fb.cells hF; go_simp; try with_reducible rfl
      try simp only [pS]
      refine tk 7 rfl (v := ?v449) (.inl ⟨by rfl, ?hy449⟩) ?rest449
      case hy449 => intro w hSw; obtain ⟨p', q', hF⟩ := hSw; have hSc := At.cells (Fd.act (uh HX) hF.fd); have hSd := Fb.cells hF; go_simp; try with_reducible rfl
      try simp only [pS]
      refine tk 8 rfl (v := ?v450) (.inl ⟨by rfl, ?hy450⟩) ?rest450
      case hy450 => intro w hSw; obtain ⟨p', q', hF⟩ := hSw; have hSc := At.cells (Fd.act (uh HX) hF.fd); have hSd := Fb.cells hF; go_simp; try with_reducible rfl
      try simp only [pS]
      refine wpAnyH_ready (rs := [9]) (by kernel_rfl) (by simp) ?_
      refine rc rfl fun K hK => ?_
      go_simp
      refine ((uh HFP) _ _ _ (uh HS0).fd.bel (uh HX).other).mono ?_; rw [← uh HSR]; rintro e w1' ⟨rfl, hb1⟩; have HS1 := hide ((uh HS0).below hb1); clear hb1
      go_wp2_with fail
      refine hK.out _ _ (by first | exact ⟨_, _, uh HS1⟩ | assumption | (dsimp only; assumption)) (fun hHeld2 => ?_)
      clear hK K
      try simp only [pS]
      refine tk 10 rfl (v := ?v451) (.inl ⟨by rfl, ?hy451⟩) ?rest451
      case hy451 => intro w hSw; obtain ⟨p', q', hF⟩ := hSw; have hSc := At.cells (Fd.act (uh HX) hF.fd); have hSd := Fb.cells hF; go_simp; try with_reducible rfl
      try simp only [pS]
      refine tk 11 rfl (v := ?v452) (.inl ⟨by rfl, ?hy452⟩) ?rest452
      case hy452 => intro w hSw; obtain ⟨p', q', hF⟩ := hSw; have hSc := At.cells (Fd.act (uh HX) hF.fd); have hSd := Fb.cells hF; go_simp; try with_reducible rfl
      try simp only [pS]
      refine tk 12 rfl (v := ?v453) (.inl ⟨by rfl, ?hy453⟩) ?rest453
      case hy453 => intro w hSw; obtain ⟨p', q', hF⟩ := hSw; have hSc := At.cells (Fd.act (uh HX) hF.fd); have hSd := Fb.cells hF; go_simp; try with_reducible rfl
      try simp only [pS]
      refine tk 13 rfl (v := ?v454) (.inl ⟨by rfl, ?hy454⟩) ?rest454
      case hy454 => intro w hSw; obtain ⟨p', q', hF⟩ := hSw; have hSc := At.cells (Fd.act (uh HX) hF.fd); have hSd := Fb.cells hF; go_simp; try with_reducible rfl
      try simp only [pS]
      refine tk 14 rfl (v := ?v455) (.inl ⟨by rfl, ?hy455⟩) ?rest455
      case hy455 => intro w hSw; obtain ⟨p', q', hF⟩ := hSw; have hSc := At.cells (Fd.act (uh HX) hF.fd); have hSd := Fb.cells hF; go_simp; try with_reducible rfl
      try simp only [pS]
      refine wpAnyH_ready (rs := [15]) (by kernel_rfl) (by simp) ?_
      refine rc rfl fun K hK => ?_
      obtain ⟨y0, y1, y2, y3, y4, y5, y6, y7, y8, y9, y10, y11, y12, y13, y14, y15, y16, y17, y18, y19, y20, y21⟩ := At.cells (Fd.act (uh HX) (uh HS1).fd); obtain ⟨z0, z1, z2, z3⟩ := (uh HS1).fd.fzq; have HS2 := hide ((uh HS1).setq RS.1); go_simp; go_wp2_with fail; clear y0 y1 y2 y3 y4 y5 y6 y7 y8 y9 y10 y11 y12 y13 y14 y15 y16 y17 y18 y19 y20 y21 z0 z1 z2 z3
      try simp only [pS]
      refine hK.out _ _ (by first | exact ⟨_, _, uh HS2⟩ | assumption | (dsimp only; assumption)) (fun hHeld2 => ?_)
      clear hK K
      try simp only [pS]
      refine tk 16 rfl (v := ?v456) (.inl ⟨by rfl, ?hy456⟩) ?rest456
      case hy456 => intro w hSw; obtain ⟨p', q', hF⟩ := hSw; have hSc := At.cells (Fd.act (uh HX) hF.fd); have hSd := Fb.cells hF; go_simp; try with_reducible rfl
      try simp only [pS]
      refine wpAnyH_done (by kernel_rfl) ?_ _
      go_wp2_with fail
      go_ret
      exact ⟨by rw [uh HB]; first | done | rfl, by rw [uh HB]; exact (uh HS2).fd⟩
  | true =>
    rw [hL, if_pos rfl] at hRR
    have HPR := hide hRR
    have HS0 : Hid (Fb w0 wc.drew A x n cap dx dc now ns c pz pz ib cb) := (uh HF).dr
    clear hRR
    have hfd := Fb.cells (uh HF)
    clear HF
    go_upto_region 4 with fail
    clear hfd
    go_cut [5] (fun u wx => u = .int .i64 RR.2 ∧ Fb w0 wx A x n cap dx dc now ns c RR.1 pz ib cb)
    case first =>
      go_wp2_with fail
      refine wp_region_held_drew (S := (fun w' => ∃ p' q', Fb w0 w' A x n cap dx dc now ns c p' q' ib cb)) (by kernel_rfl) ⟨_, _, uh HS0⟩ (fun hHeld => ?_)
      refine tk 0 rfl (v := ?v457) (.inl ⟨by rfl, ?hy457⟩) ?rest457
      case hy457 => intro w hSw; obtain ⟨p', q', hF⟩ := hSw; have hSc := At.cells (Fd.act (uh HX) hF.fd); have hSd := Fb.cells hF; go_simp; try with_reducible rfl
      try simp only [pS]
      refine tk 1 rfl (v := ?v458) (.inl ⟨by rfl, ?hy458⟩) ?rest458
      case hy458 => intro w hSw; obtain ⟨p', q', hF⟩ := hSw; have hSc := At.cells (Fd.act (uh HX) hF.fd); have hSd := Fb.cells hF; go_simp; try with_reducible rfl
      try simp only [pS]
      refine tk 2 rfl (v := ?v459) (.inl ⟨by rfl, ?hy459⟩) ?rest459
      case hy459 => intro w hSw; obtain ⟨p', q', hF⟩ := hSw; have hSc := At.cells (Fd.act (uh HX) hF.fd); have hSd := Fb.cells hF; go_simp; try with_reducible rfl
      try simp only [pS]
      refine tk 3 rfl (v := ?v460) (.inl ⟨by rfl, ?hy460⟩) ?rest460
      case hy460 => intro w hSw; obtain ⟨p', q', hF⟩ := hSw; have hSc := At.cells (Fd.act (uh HX) hF.fd); have hSd := Fb.cells hF; go_simp; try with_reducible rfl
      try simp only [pS]
      refine tk 4 rfl (v := ?v461) (.inl ⟨by rfl, ?hy461⟩) ?rest461
      case hy461 => intro w hSw; obtain ⟨p', q', hF⟩ := hSw; have hSc := At.cells (Fd.act (uh HX) hF.fd); have hSd := Fb.cells hF; go_simp; try with_reducible rfl
      try simp only [pS]
      refine tk 5 rfl (v := ?v462) (.inl ⟨by rfl, ?hy462⟩) ?rest462
      case hy462 => intro w hSw; obtain ⟨p', q', hF⟩ := hSw; have hSc := At.cells (Fd.act (uh HX) hF.fd); have hSd := Fb.cells hF; go_simp; try with_reducible rfl
      try simp only [pS]
      refine tk 6 rfl (v := ?v463) (.inl ⟨by rfl, ?hy463⟩) ?rest463
      case hy463 => intro w hSw; obtain ⟨p', q', hF⟩ := hSw; have hSc := At.cells (Fd.act (uh HX) hF.fd); have hSd := Fb.cells hF; go_simp; try with_reducible rfl
      try simp only [pS]
      refine tk 7 rfl (v := ?v464) (.inl ⟨by rfl, ?hy464⟩) ?rest464
      case hy464 => intro w hSw; obtain ⟨p', q', hF⟩ := hSw; have hSc := At.cells (Fd.act (uh HX) hF.fd); have hSd := Fb.cells hF; go_simp; try with_reducible rfl
      try simp only [pS]
      refine tk 8 rfl (v := ?v465) (.inl ⟨by rfl, ?hy465⟩) ?rest465
      case hy465 => intro w hSw; obtain ⟨p', q', hF⟩ := hSw; have hSc := At.cells (Fd.act (uh HX) hF.fd); have hSd := Fb.cells hF; go_simp; try with_reducible rfl
      try simp only [pS]
      refine tk 9 rfl (v := ?v466) (.inl ⟨by rfl, ?hy466⟩) ?rest466
      case hy466 => intro w hSw; obtain ⟨p', q', hF⟩ := hSw; have hSc := At.cells (Fd.act (uh HX) hF.fd); have hSd := Fb.cells hF; go_simp; try with_reducible rfl
      try simp only [pS]
      refine tk 10 rfl (v := ?v467) (.inl ⟨by rfl, ?hy467⟩) ?rest467
      case hy467 => intro w hSw; obtain ⟨p', q', hF⟩ := hSw; have hSc := At.cells (Fd.act (uh HX) hF.fd); have hSd := Fb.cells hF; go_simp; try with_reducible rfl
      try simp only [pS]
      refine wpAnyH_ready (rs := [11]) (by kernel_rfl) (by simp) ?_
      refine rc rfl fun K hK => ?_
      go_simp
      refine ((uh HFP) _ _ _ (uh HS0).fd.bel (uh HX).path).mono ?_; rw [← uh HPR]; rintro e w1' ⟨rfl, hb1⟩; have HS1 := hide ((uh HS0).below hb1); clear hb1
      go_wp2_with fail
      refine hK.out _ _ (by first | exact ⟨_, _, uh HS1⟩ | assumption | (dsimp only; assumption)) (fun hHeld2 => ?_)
      clear hK K
      try simp only [pS]
      refine tk 12 rfl (v := ?v468) (.inl ⟨by rfl, ?hy468⟩) ?rest468
      case hy468 => intro w hSw; obtain ⟨p', q', hF⟩ := hSw; have hSc := At.cells (Fd.act (uh HX) hF.fd); have hSd := Fb.cells hF; go_simp; try with_reducible rfl
      try simp only [pS]
      refine tk 13 rfl (v := ?v469) (.inl ⟨by rfl, ?hy469⟩) ?rest469
      case hy469 => intro w hSw; obtain ⟨p', q', hF⟩ := hSw; have hSc := At.cells (Fd.act (uh HX) hF.fd); have hSd := Fb.cells hF; go_simp; try with_reducible rfl
      try simp only [pS]
      refine tk 14 rfl (v := ?v470) (.inl ⟨by rfl, ?hy470⟩) ?rest470
      case hy470 => intro w hSw; obtain ⟨p', q', hF⟩ := hSw; have hSc := At.cells (Fd.act (uh HX) hF.fd); have hSd := Fb.cells hF; go_simp; try with_reducible rfl
      try simp only [pS]
      refine tk 15 rfl (v := ?v471) (.inl ⟨by rfl, ?hy471⟩) ?rest471
      case hy471 => intro w hSw; obtain ⟨p', q', hF⟩ := hSw; have hSc := At.cells (Fd.act (uh HX) hF.fd); have hSd := Fb.cells hF; go_simp; try with_reducible rfl
      try simp only [pS]
      refine tk 16 rfl (v := ?v472) (.inl ⟨by rfl, ?hy472⟩) ?rest472
      case hy472 => intro w hSw; obtain ⟨p', q', hF⟩ := hSw; have hSc := At.cells (Fd.act (uh HX) hF.fd); have hSd := Fb.cells hF; go_simp; try with_reducible rfl
      try simp only [pS]
      refine wpAnyH_ready (rs := [17]) (by kernel_rfl) (by simp) ?_
      refine rc rfl fun K hK => ?_
      obtain ⟨y0, y1, y2, y3, y4, y5, y6, y7, y8, y9, y10, y11, y12, y13, y14, y15, y16, y17, y18, y19, y20, y21⟩ := At.cells (Fd.act (uh HX) (uh HS1).fd); obtain ⟨z0, z1, z2, z3⟩ := (uh HS1).fd.fzp; have HS2 := hide ((uh HS1).setp RR.1); go_simp; go_wp2_with fail; clear y0 y1 y2 y3 y4 y5 y6 y7 y8 y9 y10 y11 y12 y13 y14 y15 y16 y17 y18 y19 y20 y21 z0 z1 z2 z3
      try simp only [pS]
      refine hK.out _ _ (by first | exact ⟨_, _, uh HS2⟩ | assumption | (dsimp only; assumption)) (fun hHeld2 => ?_)
      clear hK K
      try simp only [pS]
      refine tk 18 rfl (v := ?v473) (.inl ⟨by rfl, ?hy473⟩) ?rest473
      case hy473 => intro w hSw; obtain ⟨p', q', hF⟩ := hSw; have hSc := At.cells (Fd.act (uh HX) hF.fd); have hSd := Fb.cells hF; go_simp; try with_reducible rfl
      try simp only [pS]
      refine wpAnyH_done (by kernel_rfl) ?_ _
      go_wp2_with fail
      go_meet
      exact ⟨rfl, uh HS2⟩
    case rest =>
      obtain ⟨rfl, hF⟩ := hcut
      have HF := hide hF
      clear hF HS0
      obtain ⟨i0, i1, i2, k0, k1, k2, k3, k4, k5, k6, k7, k8, k9, k10, k11⟩ := Fb.cells (uh HF)
      by_cases hz : RR.2 = 0
      · have hzb : (RR.2 == 0) = true := by rw [hz]; rfl
        have HZ1 := hide hz
        cases hO : (bits .and .i64 ((rowOf c.kind).1 : Int) 2 != 0) with
        | false =>
          have HB := hide (fb_no (uh HRR) hz ((uh HOT).symm.trans hO))
          go_wp2_with fail
          go_ret
          exact ⟨by rw [uh HB]; first | done | rfl | (show Ending.returned (Value.int .i64 RR.2) = _; rw [hz]), by rw [uh HB]; exact (uh HF).fd⟩
        | true =>
          obtain ⟨RS, hSR⟩ : ∃ RS, RS = findA now ns c.env c.other false := ⟨_, rfl⟩
          have HSR := hide hSR
          clear hSR
          have HB := hide (fb_oth (uh HRR) (uh HZ1) ((uh HOT).symm.trans hO))
          rw [← uh HSR] at HB
          have HS0 : Hid (Fb w0 wc.drew A x n cap dx dc now ns c RR.1 pz ib cb) := (uh HF).dr
          clear HF
          go_wp2_with fail
          refine wp_region_held_drew (S := (fun w' => ∃ p' q', Fb w0 w' A x n cap dx dc now ns c p' q' ib cb)) (by kernel_rfl) ⟨_, _, uh HS0⟩ (fun hHeld => ?_)
          refine tk 0 rfl (v := ?v474) (.inl ⟨by rfl, ?hy474⟩) ?rest474
          case hy474 => intro w hSw; obtain ⟨p', q', hF⟩ := hSw; have hSc := At.cells (Fd.act (uh HX) hF.fd); have hSd := Fb.cells hF; go_simp; try with_reducible rfl
          try simp only [pS]
          refine tk 1 rfl (v := ?v475) (.inl ⟨by rfl, ?hy475⟩) ?rest475
          case hy475 => intro w hSw; obtain ⟨p', q', hF⟩ := hSw; have hSc := At.cells (Fd.act (uh HX) hF.fd); have hSd := Fb.cells hF; go_simp; try with_reducible rfl
          try simp only [pS]
          refine tk 2 rfl (v := ?v476) (.inl ⟨by rfl, ?hy476⟩) ?rest476
          case hy476 => intro w hSw; obtain ⟨p', q', hF⟩ := hSw; have hSc := At.cells (Fd.act (uh HX) hF.fd); have hSd := Fb.cells hF; go_simp; try with_reducible rfl
          try simp only [pS]
          refine tk 3 rfl (v := ?v477) (.inl ⟨by rfl, ?hy477⟩) ?rest477
          case hy477 => intro w hSw; obtain ⟨p', q', hF⟩ := hSw; have hSc := At.cells (Fd.act (uh HX) hF.fd); have hSd := Fb.cells hF; go_simp; try with_reducible rfl
          try simp only [pS]
          refine tk 4 rfl (v := ?v478) (.inl ⟨by rfl, ?hy478⟩) ?rest478
          case hy478 => intro w hSw; obtain ⟨p', q', hF⟩ := hSw; have hSc := At.cells (Fd.act (uh HX) hF.fd); have hSd := Fb.cells hF; go_simp; try with_reducible rfl
          try simp only [pS]
          refine tk 5 rfl (v := ?v479) (.inl ⟨by rfl, ?hy479⟩) ?rest479
          case hy479 => intro w hSw; obtain ⟨p', q', hF⟩ := hSw; have hSc := At.cells (Fd.act (uh HX) hF.fd); have hSd := Fb.cells hF; go_simp; try with_reducible rfl
          try simp only [pS]
          refine tk 6 rfl (v := ?v480) (.inl ⟨by rfl, ?hy480⟩) ?rest480
          case hy480 => intro w hSw; obtain ⟨p', q', hF⟩ := hSw; have hSc := At.cells (Fd.act (uh HX) hF.fd); have hSd := Fb.cells hF; go_simp; try with_reducible rfl
          try simp only [pS]
          refine tk 7 rfl (v := ?v481) (.inl ⟨by rfl, ?hy481⟩) ?rest481
          case hy481 => intro w hSw; obtain ⟨p', q', hF⟩ := hSw; have hSc := At.cells (Fd.act (uh HX) hF.fd); have hSd := Fb.cells hF; go_simp; try with_reducible rfl
          try simp only [pS]
          refine tk 8 rfl (v := ?v482) (.inl ⟨by rfl, ?hy482⟩) ?rest482
          case hy482 => intro w hSw; obtain ⟨p', q', hF⟩ := hSw; have hSc := At.cells (Fd.act (uh HX) hF.fd); have hSd := Fb.cells hF; go_simp; try with_reducible rfl
          try simp only [pS]
          refine wpAnyH_ready (rs := [9]) (by kernel_rfl) (by simp) ?_
          refine rc rfl fun K hK => ?_
          go_simp
          refine ((uh HFP) _ _ _ (uh HS0).fd.bel (uh HX).other).mono ?_; rw [← uh HSR]; rintro e w1' ⟨rfl, hb1⟩; have HS1 := hide ((uh HS0).below hb1); clear hb1
          go_wp2_with fail
          refine hK.out _ _ (by first | exact ⟨_, _, uh HS1⟩ | assumption | (dsimp only; assumption)) (fun hHeld2 => ?_)
          clear hK K
          try simp only [pS]
          refine tk 10 rfl (v := ?v483) (.inl ⟨by rfl, ?hy483⟩) ?rest483
          case hy483 => intro w hSw; obtain ⟨p', q', hF⟩ := hSw; have hSc := At.cells (Fd.act (uh HX) hF.fd); have hSd := Fb.cells hF; go_simp; try with_reducible rfl
          try simp only [pS]
          refine tk 11 rfl (v := ?v484) (.inl ⟨by rfl, ?hy484⟩) ?rest484
          case hy484 => intro w hSw; obtain ⟨p', q', hF⟩ := hSw; have hSc := At.cells (Fd.act (uh HX) hF.fd); have hSd := Fb.cells hF; go_simp; try with_reducible rfl
          try simp only [pS]
          refine tk 12 rfl (v := ?v485) (.inl ⟨by rfl, ?hy485⟩) ?rest485
          case hy485 => intro w hSw; obtain ⟨p', q', hF⟩ := hSw; have hSc := At.cells (Fd.act (uh HX) hF.fd); have hSd := Fb.cells hF; go_simp; try with_reducible rfl
          try simp only [pS]
          refine tk 13 rfl (v := ?v486) (.inl ⟨by rfl, ?hy486⟩) ?rest486
          case hy486 => intro w hSw; obtain ⟨p', q', hF⟩ := hSw; have hSc := At.cells (Fd.act (uh HX) hF.fd); have hSd := Fb.cells hF; go_simp; try with_reducible rfl
          try simp only [pS]
          refine tk 14 rfl (v := ?v487) (.inl ⟨by rfl, ?hy487⟩) ?rest487
          case hy487 => intro w hSw; obtain ⟨p', q', hF⟩ := hSw; have hSc := At.cells (Fd.act (uh HX) hF.fd); have hSd := Fb.cells hF; go_simp; try with_reducible rfl
          try simp only [pS]
          refine wpAnyH_ready (rs := [15]) (by kernel_rfl) (by simp) ?_
          refine rc rfl fun K hK => ?_
          obtain ⟨y0, y1, y2, y3, y4, y5, y6, y7, y8, y9, y10, y11, y12, y13, y14, y15, y16, y17, y18, y19, y20, y21⟩ := At.cells (Fd.act (uh HX) (uh HS1).fd); obtain ⟨z0, z1, z2, z3⟩ := (uh HS1).fd.fzq; have HS2 := hide ((uh HS1).setq RS.1); go_simp; go_wp2_with fail; clear y0 y1 y2 y3 y4 y5 y6 y7 y8 y9 y10 y11 y12 y13 y14 y15 y16 y17 y18 y19 y20 y21 z0 z1 z2 z3
          try simp only [pS]
          refine hK.out _ _ (by first | exact ⟨_, _, uh HS2⟩ | assumption | (dsimp only; assumption)) (fun hHeld2 => ?_)
          clear hK K
          try simp only [pS]
          refine tk 16 rfl (v := ?v488) (.inl ⟨by rfl, ?hy488⟩) ?rest488
          case hy488 => intro w hSw; obtain ⟨p', q', hF⟩ := hSw; have hSc := At.cells (Fd.act (uh HX) hF.fd); have hSd := Fb.cells hF; go_simp; try with_reducible rfl
          try simp only [pS]
          refine wpAnyH_done (by kernel_rfl) ?_ _
          go_wp2_with fail
          go_ret
          exact ⟨by rw [uh HB]; first | done | rfl, by rw [uh HB]; exact (uh HS2).fd⟩
      · have hzb : (RR.2 == 0) = false := by rw [beq_eq_false_iff_ne]; exact hz
        have HB := hide (fb_err (uh HRR) hz)
        go_wp2_with fail
        go_ret
        exact ⟨by rw [uh HB]; first | done | rfl | (show Ending.returned (Value.int .i64 RR.2) = _; rw [hz]), by rw [uh HB]; exact (uh HF).fd⟩
end Go.Proofs.YtidhceebafmlkaaGreatDoor.Ca
