import Derived.Test.YtidhceebafmlkaaGreatDoorCaKind
import Derived.BigRegion
namespace Go.Proofs.YtidhceebafmlkaaGreatDoor.Ca
open Go.RowKit Cu Tr Pm Pt
structure As (W : World) (A : Nat) (x : Option Addr) (n cap : Nat) (dx : Option Addr) (dc : Nat) (a : Ac) (nb : Nat) (m : Nd) (dv lv : Value) : Prop where
  act : At W A x n cap dx dc a
  box : W.heap[nb]? = some (.cells (na m dv lv) 82)
theorem As.below {W W' : World} {A : Nat} {x : Option Addr} {n cap : Nat} {dx : Option Addr} {dc : Nat} {a : Ac} {nb : Nat} {m : Nd} {dv lv : Value} (h : As W A x n cap dx dc a nb m dv lv) (hb : Below W.heap.size W W') : As W' A x n cap dx dc a nb m dv lv :=
  ⟨h.act.below hb, (hb.block _ (Array.getElem?_eq_some_iff.1 h.box).1).trans h.box⟩
theorem As.al {W : World} {A : Nat} {x : Option Addr} {n cap : Nat} {dx : Option Addr} {dc : Nat} {a : Ac} {nb : Nat} {m : Nd} {dv lv : Value} (h : As W A x n cap dx dc a nb m dv lv) (o : Obj) : As (W.alloc o) A x n cap dx dc a nb m dv lv := h.below (al_below _ _)
theorem As.dr {W : World} {A : Nat} {x : Option Addr} {n cap : Nat} {dx : Option Addr} {dc : Nat} {a : Ac} {nb : Nat} {m : Nd} {dv lv : Value} (h : As W A x n cap dx dc a nb m dv lv) : As W.drew A x n cap dx dc a nb m dv lv := h.below (below_drew W 1)
theorem As.node {W : World} {A : Nat} {x : Option Addr} {n cap : Nat} {dx : Option Addr} {dc : Nat} {a : Ac} {nb : Nat} {m : Nd} {dv lv : Value} (h : As W A x n cap dx dc a nb m dv lv) : N10 W nb 0 m dv lv := by
  have q : ∀ j, W.cell? ⟨nb, j, none⟩ = (na m dv lv)[j]? := fun j => cell_of_row _ _ _ _ _ _ h.box
  exact ⟨q 0, q 1, q 2, q 3, q 4, q 5, q 6, q 7, q 8, q 9⟩
theorem As.fa {W : World} {A : Nat} {x : Option Addr} {n cap : Nat} {dx : Option Addr} {dc : Nat} {a : Ac} {nb : Nat} {m : Nd} {dv lv : Value} (h : As W A x n cap dx dc a nb m dv lv) :
    (W.cell? ⟨A, 0, none⟩ = some (.slice x n cap) ∧ W.cell? ⟨A, 1, none⟩ = some (.int .i64 a.now) ∧ W.cell? ⟨A, 2, none⟩ = some (.int .u8 (a.c.kind.toNat : Int)) ∧ W.cell? ⟨A, 3, none⟩ = some (.string a.c.path) ∧ W.cell? ⟨A, 4, none⟩ = some (.string a.c.other) ∧ W.cell? ⟨A, 5, none⟩ = some (.int .i64 a.c.mode) ∧ W.cell? ⟨A, 6, none⟩ = some (.int .i64 a.c.user) ∧ W.cell? ⟨A, 7, none⟩ = some (.int .i64 a.c.group) ∧ W.cell? ⟨A, 8, none⟩ = some (.int .i64 a.c.time) ∧ W.cell? ⟨A, 9, none⟩ = some (.slice dx a.c.data.length dc) ∧ W.cell? ⟨A, 10, none⟩ = some (.int .i64 a.c.env.user) ∧ W.cell? ⟨A, 11, none⟩ = some (.int .i64 a.c.env.group) ∧ W.cell? ⟨A, 12, none⟩ = some (.int .i64 a.c.env.mask) ∧ W.cell? ⟨A, 13, none⟩ = some (.int .i64 a.c.env.dir) ∧ W.cell? ⟨A, 14, none⟩ = some (.int .i64 a.p.dir) ∧ W.cell? ⟨A, 15, none⟩ = some (.string a.p.name) ∧ W.cell? ⟨A, 16, none⟩ = some (.int .i64 a.p.node) ∧ W.cell? ⟨A, 17, none⟩ = some (.bool a.p.dirs) ∧ W.cell? ⟨A, 18, none⟩ = some (.int .i64 a.q.dir) ∧ W.cell? ⟨A, 19, none⟩ = some (.string a.q.name) ∧ W.cell? ⟨A, 20, none⟩ = some (.int .i64 a.q.node) ∧ W.cell? ⟨A, 21, none⟩ = some (.bool a.q.dirs)) ∧ W.cell? ⟨nb, 0, none⟩ = some (.int .u8 (m.kind.toNat : Int)) ∧ W.cell? ⟨nb, 0 + 1, none⟩ = some (.int .i64 m.mode) ∧ W.cell? ⟨nb, 0 + 2, none⟩ = some (.int .i64 m.user) ∧ W.cell? ⟨nb, 0 + 3, none⟩ = some (.int .i64 m.group) ∧ W.cell? ⟨nb, 0 + 4, none⟩ = some (.int .i64 m.links) ∧ W.cell? ⟨nb, 0 + 5, none⟩ = some (.int .i64 m.time) ∧ W.cell? ⟨nb, 0 + 6, none⟩ = some dv ∧ W.cell? ⟨nb, 0 + 7, none⟩ = some (.string m.target) ∧ W.cell? ⟨nb, 0 + 8, none⟩ = some lv ∧ W.cell? ⟨nb, 0 + 9, none⟩ = some (.int .i64 m.parent) :=
  ⟨h.act.cells, h.node.c0, h.node.c1, h.node.c2, h.node.c3, h.node.c4, h.node.c5, h.node.c6, h.node.c7, h.node.c8, h.node.c9⟩
set_option maxRecDepth 100000 in
set_option maxHeartbeats 400000 in
theorem isNone_val (n : Nd) (d l : Value) (w : World) : Calls Tryz.prog 190 #[.agg (na n d l)] w fun e w' => e = .returned (.bool (isN n)) ∧ Below w.heap.size w w' := by
  have hq : isN n = ((n.kind.toNat : Int) == 0) := (kd_eq n.kind 0).symm
  rw [hq]
  obtain ⟨kd, md, us, gr, lk, ti, dt, tg, ls, pa⟩ := n
  have hb0 : Hid (Below w.heap.size w (w.alloc (.cells (na ⟨kd, md, us, gr, lk, ti, dt, tg, ls, pa⟩ d l) 82))) := (Below.refl _ _).alloc (Nat.le_refl _) _
  unfold na at *
  simp only at *
  go_enter Tryz.func190, Tryz.ntmps190
  go_wp2
  go_ret
  exact ⟨rfl, uh hb0⟩
set_option maxRecDepth 100000 in
set_option maxHeartbeats 4000000 in
theorem chmod_any (A : Nat) (x : Option Addr) (n cap : Nat) (dx : Option Addr) (dc : Nat) (a : Ac) (w : World) (h : At w A x n cap dx dc a) (hp : Okp a.ns a.p) :
    Calls Tryz.prog 130 #[.pointer (some ⟨A, 0, none⟩)] w (DoR a.chmod w) := by
  obtain ⟨pd, hpd, hdr⟩ := hp.dir
  obtain ⟨pm, hpm, hpn, -⟩ := hp.node h.chk
  obtain ⟨er, hER⟩ : ∃ er, Hid (er = orP [wh (isN a.here) 6, wh (!ownsP a.here a.c.env) 10]) := ⟨_, rfl⟩
  obtain ⟨RR, hRR⟩ : ∃ RR, RR = a.chmod := ⟨_, rfl⟩
  rw [← hRR]
  have HK : Hid (RR = if er ≠ 0 then no er else yes a.now (upd a.ns a.p.node.toNat fun y => { y with mode := a.c.mode })) := by show _ = _; rw [hRR, uh hER]; rfl
  clear hRR
  have HPM := hide hpm
  have HPN := hide hpn
  obtain ⟨w1, hw1⟩ : ∃ w1, w1 = w.alloc (.cells zTree 24) := ⟨_, rfl⟩
  have HA1 : Hid (At w1 A x n cap dx dc a) := by rw [hw1]; exact h.al _
  have HH := hide (here_any A x n cap dx dc a pm w1 (uh HA1) hpm hpn)
  have HW1 := hide hw1
  clear h hw1 hp hpd hpm hpn hdr
  go_enter Tryz.func130, Tryz.ntmps130
  go_upto_region 1 with fail
  rw [← uh HW1]
  go_wp2_with fail
  refine (uh HH).mono ?_
  rintro e w2 ⟨⟨vh, rfl, da, ec, la, lc, hvh, -, -⟩, hb2⟩
  subst hvh
  have BB2 := hide hb2
  have HA2 := hide ((uh HA1).below hb2)
  have HIN : Hid (∀ W, Calls Tryz.prog 190 #[.agg (na a.here (.slice da a.here.data.length ec) (.slice la a.here.list.length lc))] W fun e w' => e = .returned (.bool (isN a.here)) ∧ Below W.heap.size W w') := fun W => isNone_val _ _ _ W
  have HOW : Hid (∀ W, Calls Tryz.prog 39 #[.agg (na a.here (.slice da a.here.data.length ec) (.slice la a.here.list.length lc)), .agg (ea a.c.env)] W fun e w' => e = .returned (.bool (ownsP a.here a.c.env)) ∧ Below W.heap.size W w') := fun W => owns_any a.here _ _ a.c.env W
  clear hb2 HH
  go_upto_region 2 with fail
  obtain ⟨nb, hnb⟩ : ∃ nb, nb = w2.heap.size := ⟨_, rfl⟩
  obtain ⟨w3, hw3⟩ : ∃ w3, w3 = w2.alloc (.cells (na a.here (.slice da a.here.data.length ec) (.slice la a.here.list.length lc)) 82) := ⟨_, rfl⟩
  rw [← hnb]
  rw [← hw3]
  have HS : As w3 A x n cap dx dc a nb a.here (.slice da a.here.data.length ec) (.slice la a.here.list.length lc) := by rw [hw3, hnb]; exact ⟨(uh HA2).al _, heap_alloc_new w2 _⟩
  have BB3 : Below w1.heap.size w1 w3 := by rw [hw3]; exact (uh BB2).alloc (uh BB2).size _
  have HS0 : Hid (As w3.drew A x n cap dx dc a nb a.here (.slice da a.here.data.length ec) (.slice la a.here.list.length lc)) := HS.dr
  have BB0 : Hid (Below w1.heap.size w1 w3.drew) := below_dr BB3
  clear hnb hw3 HS BB3 BB2 HA2 HA1
  go_cut [5] (fun u wx => u = .int .i64 er ∧ Hid (At wx A x n cap dx dc a) ∧ Hid (Below w1.heap.size w1 wx))
  case first =>
    go_wp2_with fail
    refine wp_region_held_drew (S := (fun w' => As w' A x n cap dx dc a nb a.here (.slice da a.here.data.length ec) (.slice la a.here.list.length lc))) (by kernel_rfl) (uh HS0) (fun hHeld => ?_)
    refine tk 0 rfl (v := ?v43) (.inl ⟨by rfl, ?hy43⟩) ?rest43
    case hy43 => intro w hSw; have hSc := As.fa hSw; go_simp; try with_reducible rfl
    try simp only [pS]
    refine tk 3 rfl (v := ?v44) (.inl ⟨by rfl, ?hy44⟩) ?rest44
    case hy44 => intro w hSw; have hSc := As.fa hSw; go_simp; try with_reducible rfl
    try simp only [pS]
    refine tk 4 rfl (v := ?v45) (.inl ⟨by rfl, ?hy45⟩) ?rest45
    case hy45 => intro w hSw; have hSc := As.fa hSw; go_simp; try with_reducible rfl
    try simp only [pS]
    refine tk 5 rfl (v := ?v46) (.inl ⟨by rfl, ?hy46⟩) ?rest46
    case hy46 => intro w hSw; have hSc := As.fa hSw; go_simp; try with_reducible rfl
    try simp only [pS]
    refine tk 6 rfl (v := ?v47) (.inl ⟨by rfl, ?hy47⟩) ?rest47
    case hy47 => intro w hSw; have hSc := As.fa hSw; go_simp; try with_reducible rfl
    try simp only [pS]
    refine tk 7 rfl (v := ?v48) (.inl ⟨by rfl, ?hy48⟩) ?rest48
    case hy48 => intro w hSw; have hSc := As.fa hSw; go_simp; try with_reducible rfl
    try simp only [pS]
    refine tk 8 rfl (v := ?v49) (.inl ⟨by rfl, ?hy49⟩) ?rest49
    case hy49 => intro w hSw; have hSc := As.fa hSw; go_simp; try with_reducible rfl
    try simp only [pS]
    refine wpAnyH_ready (rs := [1]) (by kernel_rfl) (by simp) ?_
    refine rc rfl fun K hK => ?_
    go_simp
    refine ((uh HIN _)).mono ?_; rintro e w1' ⟨rfl, hb1⟩; have HS1 := hide ((uh HS0).below hb1); have BB1 := hide ((uh BB0).trans (hb1.mono (uh BB0).size)); clear hb1
    go_wp2_with fail
    refine hK.out _ _ (by first | exact (uh HS1) | assumption | (dsimp only; assumption)) (fun hHeld2 => ?_)
    clear hK K
    try simp only [pS]
    refine wpAnyH_ready (rs := [2]) (by kernel_rfl) (by simp) ?_
    refine rc rfl fun K hK => ?_
    go_simp
    refine (when_any _ _ _).mono ?_; rintro e ww2 ⟨rfl, hw2⟩; subst hw2
    go_wp2_with fail
    refine hK.out _ _ (by first | exact (uh HS1) | assumption | (dsimp only; assumption)) (fun hHeld2 => ?_)
    clear hK K
    try simp only [pS]
    refine wpAnyH_ready (rs := [9]) (by kernel_rfl) (by simp) ?_
    refine rc rfl fun K hK => ?_
    go_simp
    refine ((uh HOW _)).mono ?_; rintro e w2' ⟨rfl, hb2⟩; have HS2 := hide ((uh HS1).below hb2); have BB2 := hide ((uh BB1).trans (hb2.mono (uh BB1).size)); clear hb2
    go_wp2_with fail
    refine hK.out _ _ (by first | exact (uh HS2) | assumption | (dsimp only; assumption)) (fun hHeld2 => ?_)
    clear hK K
    try simp only [pS]
    refine tk 10 rfl (v := ?v50) (.inl ⟨by rfl, ?hy50⟩) ?rest50
    case hy50 => intro w hSw; have hSc := As.fa hSw; go_simp; try with_reducible rfl
    try simp only [pS]
    refine wpAnyH_ready (rs := [11]) (by kernel_rfl) (by simp) ?_
    refine rc rfl fun K hK => ?_
    go_simp
    refine (when_any _ _ _).mono ?_; rintro e ww11 ⟨rfl, hw11⟩; subst hw11
    go_wp2_with fail
    refine hK.out _ _ (by first | exact (uh HS2) | assumption | (dsimp only; assumption)) (fun hHeld2 => ?_)
    clear hK K
    try simp only [pS]
    refine wpAnyH_ready (rs := [12]) (by kernel_rfl) (by simp) ?_
    refine rc rfl fun K hK => ?_
    go_simp
    skip
    go_wp2_with fail
    refine hK.out _ _ (by first | exact ((uh HS2).al _) | assumption | (dsimp only; assumption)) (fun hHeld2 => ?_)
    clear hK K
    try simp only [pS]
    refine wpAnyH_ready (rs := [13]) (by kernel_rfl) (by simp) ?_
    refine rc rfl fun K hK => ?_
    go_simp
    refine (or2_any _ _ _ _ rfl).mono ?_; rintro e ww13 ⟨rfl, hw13⟩; subst hw13
    go_wp2_with fail
    refine hK.out _ _ (by first | exact ((uh HS2).al _) | assumption | (dsimp only; assumption)) (fun hHeld2 => ?_)
    clear hK K
    try simp only [pS]
    refine tk 14 rfl (v := ?v51) (.inl ⟨by rfl, ?hy51⟩) ?rest51
    case hy51 => intro w hSw; have hSc := As.fa hSw; go_simp; try with_reducible rfl
    try simp only [pS]
    refine wpAnyH_done (by kernel_rfl) ?_ _
    go_wp2_with fail
    go_meet
    exact ⟨by rw [uh hER], ((uh HS2).al _).act, (uh BB2).alloc (uh BB2).size _⟩
  case rest =>
    obtain ⟨rfl, HA, HBB⟩ := hcut
    rw [uh HW1] at HBB
    clear HS0 BB0 hER
    by_cases her : er = 0
    · have HK2 : Hid (RR = yes a.now (upd a.ns a.p.node.toNat fun y => { y with mode := a.c.mode })) := by show _ = _; rw [uh HK, if_neg (fun q => q her)]
      have hern : (er != 0) = false := by simpa using her
      subst her
      clear HK hern
      have HRB : Hid (w.heap.size < wc.heap.size) := by show _ < _; have := (uh HBB).size; simp at this; omega
      have HCP := hide (copy_any (uh HA))
      go_wp2_with fail
      refine (uh HCP).mono ?_
      rintro e w2 ⟨⟨D, v2, l2, rfl, hdf2, hm2⟩, hb2⟩
      have hl2 : l2.length = a.ns.length := by rw [← hm2, List.length_map]
      have hal := (uh HA).len
      obtain ⟨g, c, hvg⟩ := hdf2.at (by omega)
      subst hvg
      have hpn := uh HPN
      have hpl : pm < l2.length := by rw [hl2]; exact hpn
      have hpl2 : (pm : Int) < (l2.length : Int) := by omega
      have hb2d := below_dr hb2
      have HD3 := hide ((hdf2.upd1 pm 1 (.int .i64 a.c.mode) (fun y => { y with mode := a.c.mode }) hpl (by omega) (fun _ _ _ => .inl rfl) (fun _ => rfl) (fun _ => rfl)).dr)
      have CB3 : Hid (Below wc.heap.size wc (w2.setCell ⟨g, pm * 10 + 1, none⟩ (.int .i64 a.c.mode)).drew) := below_dr (hb2.setCell (p := ⟨g, pm * 10 + 1, none⟩) hdf2.ne.2.1 (.int .i64 a.c.mode))
      have HM3 : Hid ((updL l2 pm fun y => { y with mode := a.c.mode }).map (·.1) = upd a.ns a.p.node.toNat fun y => { y with mode := a.c.mode }) := by show _ = _; rw [updL_fst _ _ hpl, hm2, uh HPM]; rfl
      generalize updL l2 pm (fun y => { y with mode := a.c.mode }) = l3 at *
      obtain ⟨m2, dv2, lv2, hx2⟩ : ∃ m2 dv2 lv2, l2.getD pm zNv = (m2, dv2, lv2) := ⟨_, _, _, rfl⟩
      obtain ⟨n0, n1, n2, n3, n4, n5, n6, n7, n8, n9⟩ := hdf2.ten pm hpl hx2
      have fz := hdf2.frozen (pm * 10 + 1)
      obtain ⟨t0, t1, -⟩ := hdf2.cells
      have hv := ((uh HA).below hb2).cells
      rw [uh HPM] at hv
      clear hdf2 hm2 hb2 hb2d hl2 hal HCP hx2 hpn hpl
      go_wp2_with fail
      go_region
      go_upto_region 7 with fail
      obtain ⟨w4, hw4⟩ : ∃ w4, w4 = (w2.setCell ⟨g, pm * 10 + 1, none⟩ (.int .i64 a.c.mode)).drew := ⟨_, rfl⟩
      rw [← hw4]
      have HD4 : Hid (Df w4 wc.heap.size D a.now (.slice (some ⟨g, 0, none⟩) l2.length c) l3) := by rw [hw4]; exact (uh HD3)
      have CB4 : Hid (Below wc.heap.size wc w4) := by rw [hw4]; exact uh CB3
      clear HD3 CB3 hw4 n0 n1 n2 n3 n4 n5 n6 n7 n8 n9 fz t0 t1 hv
      have HBW := hide ((uh HBB).trans ((uh CB4).mono (by have := uh HRB; have := (uh HBB).size; omega)))
      obtain ⟨r0, r1, z0, z1⟩ := room_cells (uh HBW)
      obtain ⟨t0, t1, -⟩ := (uh HD4).cells
      have HDF := hide (((uh HD4).room (uh HRB) (.slice (some ⟨g, 0, none⟩) l2.length c) (.int .i64 a.now)).ot (Nat.le_of_lt (uh HRB)) (uh HM3))
      have HF := hide (room_below (uh HBW) (.slice (some ⟨g, 0, none⟩) l2.length c) (.int .i64 a.now))
      go_wp2_with fail
      refine bodyPost_ret (v := .tuple #[.agg #[.slice (some ⟨g, 0, none⟩) l2.length c, .int .i64 a.now], .int .i64 0]) (by simp [results, Tryz.results130, go_sem, r0, r1]) rfl ?_
      show DoR RR w _ _
      rw [uh HK2]
      exact ⟨⟨_, rfl, uh HDF⟩, uh HF⟩
    · have HRD := hide (room_cells (uh HBB))
      have HF := hide (room_below (uh HBB) (.slice none 0 0) (.int .i64 0))
      have HK2 : Hid (RR = no er) := by show _ = _; rw [uh HK, if_pos her]
      obtain ⟨r0, r1, z0, z1⟩ := uh HRD
      have hern : (er != 0) = true := by simpa using her
      clear HRD HK HBB HA
      go_wp2_with fail
      refine bodyPost_ret (v := .tuple #[.agg #[.slice none 0 0, .int .i64 0], .int .i64 er]) (by simp [results, Tryz.results130, go_sem, r0, r1]) rfl ?_
      show DoR RR w _ _
      rw [uh HK2]
      exact ⟨⟨_, rfl, ot_nil _ _⟩, uh HF⟩
end Go.Proofs.YtidhceebafmlkaaGreatDoor.Ca

namespace Go.Proofs.YtidhceebafmlkaaGreatDoor.Ca
open Go.RowKit Cu Tr Pm Pt
set_option maxRecDepth 100000 in
set_option maxHeartbeats 4000000 in
theorem symlink_any (A : Nat) (x : Option Addr) (n cap : Nat) (dx : Option Addr) (dc : Nat) (a : Ac) (w : World) (h : At w A x n cap dx dc a) (hq : Okp a.ns a.q) :
    Calls Tryz.prog 128 #[.pointer (some ⟨A, 0, none⟩)] w (DoR a.symlink w) := by
  obtain ⟨qd, hqd, hqr⟩ := hq.dir
  have HMN : Hid (∀ W, At W A x n cap dx dc a → Calls Tryz.prog 201 #[.pointer (some ⟨A, 0, none⟩)] W fun e w' => e = .returned (.int .i64 a.mayName) ∧ Below W.heap.size W w') := fun W hW => mayName_any A x n cap dx dc a W hW hq
  have HHF : Hid (∀ W, At W A x n cap dx dc a → Calls Tryz.prog 193 #[.pointer (some ⟨A, 0, none⟩)] W fun e w' => e = .returned (.int .i64 a.hasFree) ∧ Below W.heap.size W w') := fun W hW => hasFree_any A x n cap dx dc a W hW
  have HIX : Hid (∀ W, Calls Tryz.prog 182 #[.string a.c.path, .int .u8 0] W fun r w' => r = .returned (.int .i64 (Lib.indexByte a.c.path.data.toList 0)) ∧ w' = W) := fun W => Tryz.strings_IndexByte a.c.path 0 W
  have hix := index_zero a.c.path
  have HCK := hide h.chk
  have HDR := hide hqr
  have HQV : Hid (pv a.q = pv ⟨(qd : Int), a.q.name, a.q.node, a.q.dirs⟩) := by show _ = _; rw [← hqd]
  have HQD : Hid (a.q.dir.toNat = qd) := by show _ = _; rw [hqd]; rfl
  have HNN : Hid (∀ W, At W A x n cap dx dc a → Calls Tryz.prog 196 #[.pointer (some ⟨A, 0, none⟩), .int .u8 3] W fun e w' => e = .returned (.agg (na (a.newNode 3) nl nl)) ∧ Below W.heap.size W w') := fun W hW => newNode_any A x n cap dx dc a 3 3 W hW rfl
  have HE : Hid ((a.c.path.toList == []) = decide (a.c.path.size = 0)) := by
    show _ = _
    rw [s_beq]
    exact decide_eq_decide.2 ⟨fun h => by have := congrArg List.length h; exact this, fun h => none_of h⟩
  clear hq hqd hqr
  obtain ⟨er, hER⟩ : ∃ er, Hid (er = orP [wh (decide (a.c.path.size = 0)) 6, wh (decide (1024 < a.c.path.size) || hasB a.c.path 0) 13, a.mayName, a.hasFree]) := ⟨_, rfl⟩
  obtain ⟨RR, hRR⟩ : ∃ RR, RR = a.symlink := ⟨_, rfl⟩
  rw [← hRR]
  have HK : Hid (RR = if er ≠ 0 then no er else yes a.now (addD a.now a.ns a.q.dir.toNat a.q.name { a.newNode 3 with mode := 511, target := a.c.path }).1) := by show _ = _; rw [hRR, uh hER]; rfl
  clear hRR
  obtain ⟨w1, hw1⟩ : ∃ w1, w1 = w.alloc (.cells zTree 24) := ⟨_, rfl⟩
  have hA1 : At w1 A x n cap dx dc a := by rw [hw1]; exact h.al _
  have HA0 : Hid (At w1 A x n cap dx dc a) := hA1
  have BB0 : Hid (Below w1.heap.size w1 w1) := Below.refl _ _
  have HW1 := hide hw1
  clear h hw1 hA1
  go_enter Tryz.func128, Tryz.ntmps128
  go_upto_region 1 with fail
  rw [← uh HW1]
  obtain ⟨c0, c1, c2, c3, -⟩ := (uh HA0).cells
  go_upto_region 2 with fail
  clear c0 c1 c2 c3
  go_cut [5] (fun u wx => u = .int .i64 er ∧ Hid (At wx A x n cap dx dc a) ∧ Hid (Below w1.heap.size w1 wx))
  case first =>
    rw [← uh HE] at hER
    by_cases hl : 1024 < a.c.path.size
    · have hl' : (1024 : Int) < (a.c.path.size : Int) := by omega
      rw [show decide (1024 < a.c.path.size) = true from decide_eq_true hl, Bool.true_or] at hER
      clear hix hl
      go_wp2_with fail
      refine (when_any _ _ _).mono ?_
      rintro e ww ⟨rfl, hw⟩
      subst hw
      go_wp2_with fail
      refine (when_any _ _ _).mono ?_
      rintro e ww ⟨rfl, hw⟩
      subst hw
      go_wp2_with fail
      refine (uh HMN _ (uh HA0)).mono ?_
      rintro e w2 ⟨rfl, hb2⟩
      have HA2 := hide ((uh HA0).below hb2)
      have BB2 := hide ((uh BB0).trans (hb2.mono (uh BB0).size))
      clear hb2
      go_wp2_with fail
      refine (uh HHF _ (uh HA2)).mono ?_
      rintro e w3 ⟨rfl, hb3⟩
      have HA3 := hide ((uh HA2).below hb3)
      have BB3 := hide ((uh BB2).trans (hb3.mono (uh BB2).size))
      clear hb3
      go_wp2_with fail
      refine (or4_any _ _ _ _ _ _ rfl).mono ?_
      rintro e ww ⟨rfl, hw⟩
      subst hw
      go_wp2_with fail
      go_meet
      exact ⟨by rw [uh hER]; simp, (uh HA3).al _, (uh BB3).alloc (uh BB3).size _⟩
    · have hl' : ¬ (1024 : Int) < (a.c.path.size : Int) := by omega
      rw [show decide (1024 < a.c.path.size) = false from decide_eq_false hl, Bool.false_or, ← hix] at hER
      clear hix hl
      generalize Lib.indexByte a.c.path.data.toList 0 = ix at *
      go_wp2_with fail
      refine (when_any _ _ _).mono ?_
      rintro e ww ⟨rfl, hw⟩
      subst hw
      go_wp2_with (go_at_call 182; refine (uh HIX _).mono ?_; rintro r1 w3 ⟨rfl, hw⟩; rw [hw]; clear hw w3)
      refine (when_any _ _ _).mono ?_
      rintro e ww ⟨rfl, hw⟩
      subst hw
      go_wp2_with fail
      refine (uh HMN _ (uh HA0)).mono ?_
      rintro e w2 ⟨rfl, hb2⟩
      have HA2 := hide ((uh HA0).below hb2)
      have BB2 := hide ((uh BB0).trans (hb2.mono (uh BB0).size))
      clear hb2
      go_wp2_with fail
      refine (uh HHF _ (uh HA2)).mono ?_
      rintro e w3 ⟨rfl, hb3⟩
      have HA3 := hide ((uh HA2).below hb3)
      have BB3 := hide ((uh BB2).trans (hb3.mono (uh BB2).size))
      clear hb3
      go_wp2_with fail
      refine (or4_any _ _ _ _ _ _ rfl).mono ?_
      rintro e ww ⟨rfl, hw⟩
      subst hw
      go_wp2_with fail
      go_meet
      exact ⟨by rw [uh hER, show (decide ((1024 : Int) < (a.c.path.size : Int)) || decide (0 ≤ ix)) = decide (0 ≤ ix) by rw [show decide ((1024 : Int) < (a.c.path.size : Int)) = false from decide_eq_false (by omega), Bool.false_or]]; simp, (uh HA3).al _, (uh BB3).alloc (uh BB3).size _⟩
  case rest =>
    obtain ⟨rfl, HA, HBB⟩ := hcut
    rw [uh HW1] at HBB
    clear HA0 BB0 hER
    by_cases her : er = 0
    · have HK2 : Hid (RR = yes a.now (addD a.now a.ns a.q.dir.toNat a.q.name { a.newNode 3 with mode := 511, target := a.c.path }).1) := by show _ = _; rw [uh HK, if_neg (fun q => q her)]
      have hern : (er != 0) = false := by simpa using her
      subst her
      clear HK hern
      have HRB : Hid (w.heap.size < wc.heap.size) := by show _ < _; have := (uh HBB).size; simp at this; omega
      have HCP := hide (copy_any (uh HA))
      go_wp2_with fail
      refine (uh HCP).mono ?_
      rintro e w2 ⟨⟨D, v2, l2, rfl, hdf2, hm2⟩, hb2⟩
      obtain ⟨k1, k2, k3, k4, k5, k6⟩ := dir_ok (uh HCK) (uh HDR) hm2
      have hln : 2 ≤ l2.length ∧ l2.length ≤ 1000000 := by have q := congrArg List.length hm2; have q2 := (uh HA).len; rw [List.length_map] at q; omega
      have CB2 := hide hb2
      have HA2 := hide ((uh HA).below hb2)
      have HD2 := hide hdf2
      have HKK := hide (show _ ∧ _ ∧ _ ∧ _ ∧ _ ∧ _ ∧ _ ∧ _ from ⟨k1, k2, hln.1, hln.2, k3, k4, k5, k6⟩)
      have HMl := hide hm2
      clear hdf2 hm2 hb2 k1 k2 k3 k4 k5 k6 hln HCP
      go_wp2_with fail
      refine (uh HNN _ (uh HA2)).mono ?_
      rintro e w3 ⟨rfl, hb3⟩
      have CB3 := hide ((uh CB2).trans (hb3.mono (uh CB2).size))
      have HA3 := hide ((uh HA2).below hb3)
      have HD3 := hide ((uh HD2).below hb3)
      clear hb3 HNN
      go_upto_region 7 with fail
      obtain ⟨nb, hnb⟩ : ∃ nb, nb = w3.heap.size := ⟨_, rfl⟩
      obtain ⟨w4, hw4⟩ : ∃ w4, w4 = w3.alloc (.cells (na (a.newNode 3) nl nl) 82) := ⟨_, rfl⟩
      rw [← hnb]
      rw [← hw4]
      have hS4 : As w4 A x n cap dx dc a nb (a.newNode 3) nl nl := by rw [hw4, hnb]; exact ⟨(uh HA3).al _, heap_alloc_new w3 _⟩
      have hb4 : Below w3.heap.size w3 w4 := by rw [hw4]; exact al_below _ _
      have hnl : nb < w4.heap.size := (Array.getElem?_eq_some_iff.1 hS4.box).1
      obtain ⟨n0, n1, n2, n3, n4, n5, n6, n7, n8, n9⟩ := hS4.node
      have z1 : w4.frozen? ⟨nb, 1, none⟩ = false := by simp [World.frozen?, hS4.box]
      have z7 : w4.frozen? ⟨nb, 7, none⟩ = false := by simp [World.frozen?, hS4.box]
      obtain ⟨w5, hw5⟩ : ∃ w5, w5 = (w4.setCell ⟨nb, 1, none⟩ (.int .i64 511)).setCell ⟨nb, 7, none⟩ (.string a.c.path) := ⟨_, rfl⟩
      have hb5 : Below w3.heap.size w3 w5 := by rw [hw5]; exact (hb4.setCell (p := ⟨nb, 1, none⟩) (by rw [hnb]; exact Nat.le_refl _) _).setCell (p := ⟨nb, 7, none⟩) (by rw [hnb]; exact Nat.le_refl _) _
      have HS5 : As w5 A x n cap dx dc a nb { a.newNode 3 with mode := 511, target := a.c.path } nl nl := by
        refine ⟨(uh HA3).below hb5, ?_⟩
        have q := heap_setCell_same w4 nb 1 _ _ (.int .i64 511) hS4.box
        rw [hw5, heap_setCell_same _ nb 7 _ _ (.string a.c.path) q]
        rfl
      have HSd : Hid (As w5.drew A x n cap dx dc a nb { a.newNode 3 with mode := 511, target := a.c.path } nl nl) := HS5.dr
      have CB4 : Hid (Below wc.heap.size wc w5.drew) := below_dr ((uh CB3).trans (hb5.mono (uh CB3).size))
      have HD4 : Hid (Df w5.drew wc.heap.size D a.now v2 l2) := ((uh HD3).below hb5).dr
      obtain ⟨k1, k2, k31, k32, k3, k4, k5, k6⟩ := uh HKK
      have HAD := hide (add_any wc.heap.size D a.now v2 l2 qd a.q.name a.q.node a.q.dirs { a.newNode 3 with mode := 511, target := a.c.path } w5.drew (uh HD4) (uh CB4).size k1 k2 k31 k32 k3 k4 ⟨k5, k6⟩ rfl rfl)
      rw [← uh HQV, uh HMl] at HAD
      have HW5 := hide hw5
      clear hnb hw4 hS4 hb4 hnl hw5 hb5 HS5 k1 k2 k31 k32 k3 k4 k5 k6
      go_upto_region 8 with fail
      rw [← uh HW5]
      clear n0 n1 n2 n3 n4 n5 n6 n7 n8 n9 z1 z7 HW5
      obtain ⟨n0, n1, n2, n3, n4, n5, n6, n7, n8, n9⟩ := (uh HSd).node
      go_wp2_with fail
      refine wp_region_held_drew (S := (fun w' => At w' A x n cap dx dc a)) (by kernel_rfl) (uh HSd).act (fun hHeld => ?_)
      refine tk 0 rfl (v := ?v43) (.inl ⟨by rfl, ?hy43⟩) ?rest43
      case hy43 => intro w hSw; have hSc := At.cells hSw; go_simp; try with_reducible rfl
      try simp only [pS]
      refine tk 1 rfl (v := ?v44) (.inl ⟨by rfl, ?hy44⟩) ?rest44
      case hy44 => intro w hSw; have hSc := At.cells hSw; go_simp; try with_reducible rfl
      try simp only [pS]
      refine tk 2 rfl (v := ?v45) (.inl ⟨by rfl, ?hy45⟩) ?rest45
      case hy45 => intro w hSw; have hSc := At.cells hSw; go_simp; try with_reducible rfl
      try simp only [pS]
      refine tk 3 rfl (v := ?v46) (.inl ⟨by rfl, ?hy46⟩) ?rest46
      case hy46 => intro w hSw; have hSc := At.cells hSw; go_simp; try with_reducible rfl
      try simp only [pS]
      refine tk 4 rfl (v := ?v47) (.inl ⟨by rfl, ?hy47⟩) ?rest47
      case hy47 => intro w hSw; have hSc := At.cells hSw; go_simp; try with_reducible rfl
      try simp only [pS]
      refine wpAnyH_ready (rs := [5]) (by kernel_rfl) (by simp) ?_
      refine rc rfl fun K hK => ?_
      go_simp
      skip
      go_wp2_with fail
      refine hK.out _ _ (by first | exact (uh HSd).act | assumption | (dsimp only; assumption)) (fun hHeld2 => ?_)
      clear hK K
      try simp only [pS]
      refine wpAnyH_ready (rs := [6]) (by kernel_rfl) (by simp) ?_
      refine rc rfl fun K hK => ?_
      go_simp
      refine (uh HAD).mono ?_; rintro e w6 ⟨rfl, ⟨v5, l5, hdf5, hm5⟩, hb5⟩; obtain ⟨va5, vc5, hv5⟩ := own_sl hdf5.row; subst hv5; have CB5 := hide ((uh CB4).trans hb5); have HA6 := hide ((uh HA).below (uh CB5)); have HD5 := hide hdf5; have HM5x := hide hm5; clear hdf5 hm5 hb5
      go_wp2_with fail
      refine hK.out _ _ (by first | exact (uh HA6) | assumption | (dsimp only; assumption)) (fun hHeld2 => ?_)
      clear hK K
      try simp only [pS]
      refine wpAnyH_done (by kernel_rfl) ?_ _
      have HM5 : Hid (l5.map (·.1) = (addD a.now a.ns a.q.dir.toNat a.q.name { a.newNode 3 with mode := 511, target := a.c.path }).1) := by show _ = _; rw [uh HM5x, uh HQD]
      have HBW := hide ((uh HBB).trans ((uh CB5).mono (by have := uh HRB; have := (uh HBB).size; omega)))
      obtain ⟨r0, r1, z0, z1⟩ := room_cells (uh HBW)
      obtain ⟨t0, t1, -⟩ := (uh HD5).cells
      have HDF := hide (((uh HD5).room (uh HRB) (.slice va5 l5.length vc5) (.int .i64 a.now)).ot (Nat.le_of_lt (uh HRB)) (uh HM5))
      have HF := hide (room_below (uh HBW) (.slice va5 l5.length vc5) (.int .i64 a.now))
      have hDR := hide ((uh HD5).hD)
      go_wp2_with fail
      refine bodyPost_ret (v := .tuple #[.agg #[(.slice va5 l5.length vc5), .int .i64 a.now], .int .i64 0]) (by simp [results, Tryz.results128, go_sem, r0, r1]) rfl ?_
      show DoR RR w _ _
      rw [uh HK2]
      exact ⟨⟨_, rfl, uh HDF⟩, uh HF⟩
    · have HRD := hide (room_cells (uh HBB))
      have HF := hide (room_below (uh HBB) (.slice none 0 0) (.int .i64 0))
      have HK2 : Hid (RR = no er) := by show _ = _; rw [uh HK, if_pos her]
      obtain ⟨r0, r1, z0, z1⟩ := uh HRD
      have hern : (er != 0) = true := by simpa using her
      clear HRD HK HBB HA
      go_wp2_with fail
      refine bodyPost_ret (v := .tuple #[.agg #[.slice none 0 0, .int .i64 0], .int .i64 er]) (by simp [results, Tryz.results128, go_sem, r0, r1]) rfl ?_
      show DoR RR w _ _
      rw [uh HK2]
      exact ⟨⟨_, rfl, ot_nil _ _⟩, uh HF⟩
end Go.Proofs.YtidhceebafmlkaaGreatDoor.Ca
