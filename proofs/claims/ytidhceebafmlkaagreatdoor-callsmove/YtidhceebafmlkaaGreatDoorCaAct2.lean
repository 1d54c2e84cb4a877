import Derived.Test.YtidhceebafmlkaaGreatDoorCaAct
import Derived.Deep.RegionHeld3
import Derived.Outline
namespace Go.Proofs.YtidhceebafmlkaaGreatDoor.Ca
open Go.RowKit Cu Tr Pm Pt
abbrev zNd : Array Value := #[.int .u8 0, .int .i64 0, .int .i64 0, .int .i64 0, .int .i64 0, .int .i64 0, .slice none 0 0, .string ⟨#[]⟩, .slice none 0 0, .int .i64 0]
structure An (w : World) (A b off n cap : Nat) (dx : Option Addr) (dc : Nat) (a : Ac) (d : Nat) (m : Nd) (dv lv : Value) : Prop where
  act : At w A (some ⟨b, off, none⟩) n cap dx dc a
  lt : b < w.heap.size
  nd : N10 w b (off + d * 10) m dv lv
theorem An.below {w w' : World} {A b off n cap : Nat} {dx : Option Addr} {dc : Nat} {a : Ac} {d : Nat} {m : Nd} {dv lv : Value} (h : An w A b off n cap dx dc a d m dv lv) (hb : Below w.heap.size w w') : An w' A b off n cap dx dc a d m dv lv :=
  ⟨h.act.below hb, Nat.lt_of_lt_of_le h.lt hb.size, h.nd.of fun o => hb.cell (p := ⟨b, o, none⟩) h.lt⟩
theorem An.al {w : World} {A b off n cap : Nat} {dx : Option Addr} {dc : Nat} {a : Ac} {d : Nat} {m : Nd} {dv lv : Value} (h : An w A b off n cap dx dc a d m dv lv) (o : Obj) : An (w.alloc o) A b off n cap dx dc a d m dv lv := h.below ((Below.refl _ _).alloc (Nat.le_refl _) _)
theorem An.dr {w : World} {A b off n cap : Nat} {dx : Option Addr} {dc : Nat} {a : Ac} {d : Nat} {m : Nd} {dv lv : Value} (h : An w A b off n cap dx dc a d m dv lv) : An w.drew A b off n cap dx dc a d m dv lv := h.below (below_drew w 1)
theorem An.fa {w : World} {A b off n cap : Nat} {dx : Option Addr} {dc : Nat} {a : Ac} {d : Nat} {m : Nd} {dv lv : Value} (h : An w A b off n cap dx dc a d m dv lv) :
    (w.cell? ⟨A, 0, none⟩ = some (.slice (some ⟨b, off, none⟩) n cap) ∧ w.cell? ⟨A, 1, none⟩ = some (.int .i64 a.now) ∧ w.cell? ⟨A, 2, none⟩ = some (.int .u8 (a.c.kind.toNat : Int)) ∧ w.cell? ⟨A, 3, none⟩ = some (.string a.c.path) ∧ w.cell? ⟨A, 4, none⟩ = some (.string a.c.other) ∧ w.cell? ⟨A, 5, none⟩ = some (.int .i64 a.c.mode) ∧ w.cell? ⟨A, 6, none⟩ = some (.int .i64 a.c.user) ∧ w.cell? ⟨A, 7, none⟩ = some (.int .i64 a.c.group) ∧ w.cell? ⟨A, 8, none⟩ = some (.int .i64 a.c.time) ∧ w.cell? ⟨A, 9, none⟩ = some (.slice dx a.c.data.length dc) ∧ w.cell? ⟨A, 10, none⟩ = some (.int .i64 a.c.env.user) ∧ w.cell? ⟨A, 11, none⟩ = some (.int .i64 a.c.env.group) ∧ w.cell? ⟨A, 12, none⟩ = some (.int .i64 a.c.env.mask) ∧ w.cell? ⟨A, 13, none⟩ = some (.int .i64 a.c.env.dir) ∧ w.cell? ⟨A, 14, none⟩ = some (.int .i64 a.p.dir) ∧ w.cell? ⟨A, 15, none⟩ = some (.string a.p.name) ∧ w.cell? ⟨A, 16, none⟩ = some (.int .i64 a.p.node) ∧ w.cell? ⟨A, 17, none⟩ = some (.bool a.p.dirs) ∧ w.cell? ⟨A, 18, none⟩ = some (.int .i64 a.q.dir) ∧ w.cell? ⟨A, 19, none⟩ = some (.string a.q.name) ∧ w.cell? ⟨A, 20, none⟩ = some (.int .i64 a.q.node) ∧ w.cell? ⟨A, 21, none⟩ = some (.bool a.q.dirs)) ∧ w.cell? ⟨b, off + d * 10, none⟩ = some (.int .u8 (m.kind.toNat : Int)) ∧ w.cell? ⟨b, off + d * 10 + 1, none⟩ = some (.int .i64 m.mode) ∧ w.cell? ⟨b, off + d * 10 + 2, none⟩ = some (.int .i64 m.user) ∧ w.cell? ⟨b, off + d * 10 + 3, none⟩ = some (.int .i64 m.group) ∧ w.cell? ⟨b, off + d * 10 + 4, none⟩ = some (.int .i64 m.links) ∧ w.cell? ⟨b, off + d * 10 + 5, none⟩ = some (.int .i64 m.time) ∧ w.cell? ⟨b, off + d * 10 + 6, none⟩ = some dv ∧ w.cell? ⟨b, off + d * 10 + 7, none⟩ = some (.string m.target) ∧ w.cell? ⟨b, off + d * 10 + 8, none⟩ = some lv ∧ w.cell? ⟨b, off + d * 10 + 9, none⟩ = some (.int .i64 m.parent) :=
  ⟨h.act.cells, h.nd.c0, h.nd.c1, h.nd.c2, h.nd.c3, h.nd.c4, h.nd.c5, h.nd.c6, h.nd.c7, h.nd.c8, h.nd.c9⟩
theorem At.an {w : World} {A : Nat} {x : Option Addr} {n cap : Nat} {dx : Option Addr} {dc : Nat} {a : Ac} (h : At w A x n cap dx dc a) (i : Nat) (hi : i < a.ns.length) :
    ∃ b off da ec la lc, x = some ⟨b, off, none⟩ ∧ An w A b off n cap dx dc a i (nd a.ns i) (.slice da (nd a.ns i).data.length ec) (.slice la (nd a.ns i).list.length lc) ∧ By w da (nd a.ns i).data.length ec (nd a.ns i).data ∧ Eg w la (nd a.ns i).list.length lc (nd a.ns i).list := by
  obtain ⟨b, off, da, ec, la, lc, rfl, h2, h3, h4, h5⟩ := h.node i hi
  exact ⟨b, off, da, ec, la, lc, rfl, ⟨h, h2, h3⟩, h4, h5⟩
theorem al_below (w : World) (o : Obj) : Below w.heap.size w (w.alloc o) := (Below.refl _ _).alloc (Nat.le_refl _) _
theorem below_dr {B : Nat} {w w' : World} (h : Below B w w') : Below B w w'.drew := ⟨h.os, h.tape, h.output, h.size, h.block⟩
theorem set10_b {B : Nat} {w w' : World} (h : Below B w w') (g : Nat) (hg : B ≤ g) (a0 a1 a2 a3 a4 a5 a6 a7 a8 a9 : Value) : Below B w ((((((((((w'.setCell ⟨g, 0, none⟩ a0).setCell ⟨g, 1, none⟩ a1).setCell ⟨g, 2, none⟩ a2).setCell ⟨g, 3, none⟩ a3).setCell ⟨g, 4, none⟩ a4).setCell ⟨g, 5, none⟩ a5).setCell ⟨g, 6, none⟩ a6).setCell ⟨g, 7, none⟩ a7).setCell ⟨g, 8, none⟩ a8).setCell ⟨g, 9, none⟩ a9).drew := below_dr ((((((((((h.setCell (p := ⟨g, 0, none⟩) hg a0).setCell (p := ⟨g, 1, none⟩) hg a1).setCell (p := ⟨g, 2, none⟩) hg a2).setCell (p := ⟨g, 3, none⟩) hg a3).setCell (p := ⟨g, 4, none⟩) hg a4).setCell (p := ⟨g, 5, none⟩) hg a5).setCell (p := ⟨g, 6, none⟩) hg a6).setCell (p := ⟨g, 7, none⟩) hg a7).setCell (p := ⟨g, 8, none⟩) hg a8).setCell (p := ⟨g, 9, none⟩) hg a9)
set_option maxRecDepth 100000 in
set_option maxHeartbeats 2000000 in
theorem here_any (A : Nat) (x : Option Addr) (n cap : Nat) (dx : Option Addr) (dc : Nat) (a : Ac) (k : Nat) (w : World) (h : At w A x n cap dx dc a) (hk : a.p.node = (k : Int)) (hkn : k < a.ns.length) :
    Calls Tryz.prog 186 #[.pointer (some ⟨A, 0, none⟩)] w fun e w' => (∃ v, e = .returned v ∧ IsNd w' v a.here) ∧ Below w.heap.size w w' := by
  obtain ⟨b, off, da, ec, la, lc, rfl, hN, hby, heg⟩ := h.an k hkn
  have hln := h.len
  have hkn' : (k : Int) < (n : Int) := by omega
  rw [show a.here = nd a.ns k by unfold Ac.here; rw [hk]; rfl]
  generalize nd a.ns k = m at *
  have HBY := hide hby
  have HEG := hide heg
  obtain ⟨W, hW⟩ : ∃ W, W = w.alloc (.cells zNd 82) := ⟨_, rfl⟩
  have hb0 : Below w.heap.size w W := by rw [hW]; exact al_below _ _
  have hAn : An W A b off n cap dx dc a k m _ _ := hN.below hb0
  have hroom : W.heap[w.heap.size]? = some (.cells zNd 82) := by rw [hW]; exact heap_alloc_new w _
  have cs := hAn.act.cells
  rw [hk] at cs
  obtain ⟨c0, -, -, -, -, -, -, -, -, -, -, -, -, -, -, -, cN, -, -, -, -, -⟩ := cs
  obtain ⟨n0, n1, n2, n3, n4, n5, n6, n7, n8, n9⟩ := hAn.nd
  have z : ∀ j, W.cell? ⟨w.heap.size, j, none⟩ = zNd[j]? := fun j => cell_of_row _ _ _ _ _ _ hroom
  have fz : ∀ j, W.frozen? ⟨w.heap.size, j, none⟩ = false := fun j => by simp [World.frozen?, hroom]
  have r0 := z 0; have r1 := z 1; have r2 := z 2; have r3 := z 3; have r4 := z 4; have r5 := z 5; have r6 := z 6; have r7 := z 7; have r8 := z 8; have r9 := z 9
  have f0 := fz 0; have f1 := fz 1; have f2 := fz 2; have f3 := fz 3; have f4 := fz 4; have f5 := fz 5; have f6 := fz 6; have f7 := fz 7; have f8 := fz 8; have f9 := fz 9
  simp only [List.getElem?_toArray, List.getElem?_cons_zero, List.getElem?_cons_succ] at r0 r1 r2 r3 r4 r5 r6 r7 r8 r9
  have HB0 := hide hb0
  have HW := hide hW
  clear z fz h hN hby heg hb0 hAn hroom hln hk hW hkn
  go_enter Tryz.func186, Tryz.ntmps186
  go_wp2_with fail
  rw [← uh HW]
  go_region
  have HF := hide (set10_b (uh HB0) w.heap.size (Nat.le_refl _) (.int .u8 (m.kind.toNat : Int)) (.int .i64 m.mode) (.int .i64 m.user) (.int .i64 m.group) (.int .i64 m.links) (.int .i64 m.time) (.slice da m.data.length ec) (.string m.target) (.slice la m.list.length lc) (.int .i64 m.parent))
  have HBF := hide (By.below (uh HBY) (uh HF))
  have HEF := hide (Eg.below (uh HEG) (uh HF))
  clear HBY HEG HB0 HW c0 cN n0 n1 n2 n3 n4 n5 n6 n7 n8 n9
  go_wp2
  refine bodyPost_ret (v := .agg (na m (.slice da m.data.length ec) (.slice la m.list.length lc))) (by simp [results, Tryz.results186, go_sem, r0, r1, r2, r3, r4, r5, r6, r7, r8, r9]) rfl ⟨⟨_, rfl, da, ec, la, lc, rfl, uh HBF, uh HEF⟩, uh HF⟩
set_option maxRecDepth 100000 in
set_option maxHeartbeats 2000000 in
theorem there_any (A : Nat) (x : Option Addr) (n cap : Nat) (dx : Option Addr) (dc : Nat) (a : Ac) (k : Nat) (w : World) (h : At w A x n cap dx dc a) (hk : a.q.node = (k : Int)) (hkn : k < a.ns.length) :
    Calls Tryz.prog 247 #[.pointer (some ⟨A, 0, none⟩)] w fun e w' => (∃ v, e = .returned v ∧ IsNd w' v a.there) ∧ Below w.heap.size w w' := by
  obtain ⟨b, off, da, ec, la, lc, rfl, hN, hby, heg⟩ := h.an k hkn
  have hln := h.len
  have hkn' : (k : Int) < (n : Int) := by omega
  rw [show a.there = nd a.ns k by unfold Ac.there; rw [hk]; rfl]
  generalize nd a.ns k = m at *
  have HBY := hide hby
  have HEG := hide heg
  obtain ⟨W, hW⟩ : ∃ W, W = w.alloc (.cells zNd 82) := ⟨_, rfl⟩
  have hb0 : Below w.heap.size w W := by rw [hW]; exact al_below _ _
  have hAn : An W A b off n cap dx dc a k m _ _ := hN.below hb0
  have hroom : W.heap[w.heap.size]? = some (.cells zNd 82) := by rw [hW]; exact heap_alloc_new w _
  have cs := hAn.act.cells
  rw [hk] at cs
  obtain ⟨c0, -, -, -, -, -, -, -, -, -, -, -, -, -, -, -, -, -, -, -, cN, -⟩ := cs
  obtain ⟨n0, n1, n2, n3, n4, n5, n6, n7, n8, n9⟩ := hAn.nd
  have z : ∀ j, W.cell? ⟨w.heap.size, j, none⟩ = zNd[j]? := fun j => cell_of_row _ _ _ _ _ _ hroom
  have fz : ∀ j, W.frozen? ⟨w.heap.size, j, none⟩ = false := fun j => by simp [World.frozen?, hroom]
  have r0 := z 0; have r1 := z 1; have r2 := z 2; have r3 := z 3; have r4 := z 4; have r5 := z 5; have r6 := z 6; have r7 := z 7; have r8 := z 8; have r9 := z 9
  have f0 := fz 0; have f1 := fz 1; have f2 := fz 2; have f3 := fz 3; have f4 := fz 4; have f5 := fz 5; have f6 := fz 6; have f7 := fz 7; have f8 := fz 8; have f9 := fz 9
  simp only [List.getElem?_toArray, List.getElem?_cons_zero, List.getElem?_cons_succ] at r0 r1 r2 r3 r4 r5 r6 r7 r8 r9
  have HB0 := hide hb0
  have HW := hide hW
  clear z fz h hN hby heg hb0 hAn hroom hln hk hW hkn
  go_enter Tryz.func247, Tryz.ntmps247
  go_wp2_with fail
  rw [← uh HW]
  go_region
  have HF := hide (set10_b (uh HB0) w.heap.size (Nat.le_refl _) (.int .u8 (m.kind.toNat : Int)) (.int .i64 m.mode) (.int .i64 m.user) (.int .i64 m.group) (.int .i64 m.links) (.int .i64 m.time) (.slice da m.data.length ec) (.string m.target) (.slice la m.list.length lc) (.int .i64 m.parent))
  have HBF := hide (By.below (uh HBY) (uh HF))
  have HEF := hide (Eg.below (uh HEG) (uh HF))
  clear HBY HEG HB0 HW c0 cN n0 n1 n2 n3 n4 n5 n6 n7 n8 n9
  go_wp2
  refine bodyPost_ret (v := .agg (na m (.slice da m.data.length ec) (.slice la m.list.length lc))) (by simp [results, Tryz.results247, go_sem, r0, r1, r2, r3, r4, r5, r6, r7, r8, r9]) rfl ⟨⟨_, rfl, da, ec, la, lc, rfl, uh HBF, uh HEF⟩, uh HF⟩
set_option maxRecDepth 100000 in
set_option maxHeartbeats 2000000 in
theorem mayWrite_any (A : Nat) (x : Option Addr) (n cap : Nat) (dx : Option Addr) (dc : Nat) (a : Ac) (d : Nat) (w : World) (h : At w A x n cap dx dc a) (hd : d < a.ns.length) :
    Calls Tryz.prog 199 #[.pointer (some ⟨A, 0, none⟩), .int .i64 d] w fun e w' => e = .returned (.int .i64 (a.mayWrite d)) ∧ Below w.heap.size w w' := by
  obtain ⟨b, off, da, ec, la, lc, rfl, hN, -, -⟩ := h.an d hd
  have hln := h.len
  have hdn : (d : Int) < (n : Int) := by omega
  rw [show a.mayWrite d = wh (!mayP (nd a.ns d) a.c.env 2) 10 from rfl]
  generalize nd a.ns d = m at *
  have HA0 := hide hN.dr
  have BB0 : Hid (Below w.heap.size w w.drew) := below_drew w 1
  clear h hN hln hd
  go_enter Tryz.func199, Tryz.ntmps199
  go_wp2_with fail
  refine wp_region_held_drew (S := (fun w' => An w' A b off n cap dx dc a d m (.slice da m.data.length ec) (.slice la m.list.length lc))) (by kernel_rfl) (uh HA0) (fun hHeld => ?_)
  refine tk 0 rfl (v := ?v1) (.inl ⟨by rfl, ?hy1⟩) ?rest1
  case hy1 => intro w hSw; have hSc := An.fa hSw; go_simp; try with_reducible rfl
  try simp only [pS]
  refine tk 1 rfl (v := ?v2) (.inl ⟨by rfl, ?hy2⟩) ?rest2
  case hy2 => intro w hSw; have hSc := An.fa hSw; go_simp; try with_reducible rfl
  try simp only [pS]
  refine tk 2 rfl (v := ?v3) (.inl ⟨by rfl, ?hy3⟩) ?rest3
  case hy3 => intro w hSw; have hSc := An.fa hSw; go_simp; try with_reducible rfl
  try simp only [pS]
  refine tk 3 rfl (v := ?v4) (.inl ⟨by rfl, ?hy4⟩) ?rest4
  case hy4 => intro w hSw; have hSc := An.fa hSw; go_simp; try with_reducible rfl
  try simp only [pS]
  refine tk 4 rfl (v := ?v5) (.inl ⟨by rfl, ?hy5⟩) ?rest5
  case hy5 => intro w hSw; have hSc := An.fa hSw; go_simp; try with_reducible rfl
  try simp only [pS]
  refine tk 5 rfl (v := ?v6) (.inl ⟨by rfl, ?hy6⟩) ?rest6
  case hy6 => intro w hSw; have hSc := An.fa hSw; go_simp; try with_reducible rfl
  try simp only [pS]
  refine tk 6 rfl (v := ?v7) (.inl ⟨by rfl, ?hy7⟩) ?rest7
  case hy7 => intro w hSw; have hSc := An.fa hSw; go_simp; try with_reducible rfl
  try simp only [pS]
  refine tk 7 rfl (v := ?v8) (.inl ⟨by rfl, ?hy8⟩) ?rest8
  case hy8 => intro w hSw; have hSc := An.fa hSw; go_simp; try with_reducible rfl
  try simp only [pS]
  refine tk 8 rfl (v := ?v9) (.inl ⟨by rfl, ?hy9⟩) ?rest9
  case hy9 => intro w hSw; have hSc := An.fa hSw; go_simp; try with_reducible rfl
  try simp only [pS]
  refine tk 9 rfl (v := ?v10) (.inl ⟨by rfl, ?hy10⟩) ?rest10
  case hy10 => intro w hSw; have hSc := An.fa hSw; go_simp; try with_reducible rfl
  try simp only [pS]
  refine tk 10 rfl (v := ?v11) (.inl ⟨by rfl, ?hy11⟩) ?rest11
  case hy11 => intro w hSw; have hSc := An.fa hSw; go_simp; try with_reducible rfl
  try simp only [pS]
  refine tk 11 rfl (v := ?v12) (.inl ⟨by rfl, ?hy12⟩) ?rest12
  case hy12 => intro w hSw; have hSc := An.fa hSw; go_simp; try with_reducible rfl
  try simp only [pS]
  refine tk 12 rfl (v := ?v13) (.inl ⟨by rfl, ?hy13⟩) ?rest13
  case hy13 => intro w hSw; have hSc := An.fa hSw; go_simp; try with_reducible rfl
  try simp only [pS]
  refine wpAnyH_ready (rs := [13]) (by kernel_rfl) (by simp) ?_
  refine rc rfl fun K hK => ?_
  go_simp
  refine (may_any m (.slice da m.data.length ec) (.slice la m.list.length lc) a.c.env 2 _).mono ?_; rintro e w1 ⟨rfl, hb1⟩; have HA1 := hide ((uh HA0).below hb1); have BB1 := hide ((uh BB0).trans (hb1.mono (uh BB0).size)); clear hb1
  go_wp2_with fail
  refine hK.out _ _ (by first | exact (uh HA1) | assumption | (dsimp only; assumption)) (fun hHeld2 => ?_)
  clear hK K
  try simp only [pS]
  refine tk 14 rfl (v := ?v14) (.inl ⟨by rfl, ?hy14⟩) ?rest14
  case hy14 => intro w hSw; have hSc := An.fa hSw; go_simp; try with_reducible rfl
  try simp only [pS]
  refine wpAnyH_ready (rs := [15]) (by kernel_rfl) (by simp) ?_
  refine rc rfl fun K hK => ?_
  go_simp
  refine (when_any _ _ _).mono ?_; rintro e w2 ⟨rfl, hw2⟩; subst hw2
  go_wp2_with fail
  refine hK.out _ _ (by first | exact (uh HA1) | assumption | (dsimp only; assumption)) (fun hHeld2 => ?_)
  clear hK K
  try simp only [pS]
  refine tk 16 rfl (v := ?v15) (.inl ⟨by rfl, ?hy15⟩) ?rest15
  case hy15 => intro w hSw; have hSc := An.fa hSw; go_simp; try with_reducible rfl
  try simp only [pS]
  refine wpAnyH_done (by kernel_rfl) ?_ _
  go_wp2_with fail
  go_ret
  exact ⟨rfl, uh BB1⟩
theorem dec_nat (a b : Nat) : decide ((a : Int) ≤ (b : Int)) = decide (a ≤ b) := decide_eq_decide.2 (by omega)
set_option maxRecDepth 100000 in
set_option maxHeartbeats 400000 in
theorem hasFree_any (A : Nat) (x : Option Addr) (n cap : Nat) (dx : Option Addr) (dc : Nat) (a : Ac) (w : World) (h : At w A x n cap dx dc a) :
    Calls Tryz.prog 193 #[.pointer (some ⟨A, 0, none⟩)] w fun e w' => e = .returned (.int .i64 a.hasFree) ∧ Below w.heap.size w w' := by
  have HS := hide (sizes_any x n cap a.ns a.now w h.ng (sm_of h.chk))
  rw [show sizesV a.now a.ns = .tuple #[.int .i64 (nodesN a.ns a.ns.length), .int .i64 (bytesP a.ns a.ns.length)] by unfold sizesV; rw [if_pos h.chk]] at HS
  have hv : Hid (a.hasFree = wh (decide ((512 : Int) ≤ (nodesN a.ns a.ns.length : Nat))) 11) := by
    show wh _ _ = _
    rw [show (512 : Int) = ((512 : Nat) : Int) from rfl, dec_nat]
  obtain ⟨c0, c1, -⟩ := h.cells
  generalize nodesN a.ns a.ns.length = N at *
  generalize bytesP a.ns a.ns.length = M at *
  have HW := hide (fun b k w => when_any b k w)
  clear h
  go_enter Tryz.func193, Tryz.ntmps193
  go_wp2_with fail
  refine (uh HS).mono ?_
  rintro e w1 ⟨rfl, hb⟩
  have HB := hide hb
  clear hb HS
  go_wp2_with fail
  refine (uh HW _ _ _).mono ?_
  rintro e w2 ⟨rfl, hw2⟩
  subst hw2
  go_wp2_with fail
  go_ret
  exact ⟨by rw [uh hv]; rfl, uh HB⟩
set_option maxRecDepth 100000 in
set_option maxHeartbeats 1000000 in
theorem isBusy_any (A : Nat) (x : Option Addr) (n cap : Nat) (dx : Option Addr) (dc : Nat) (a : Ac) (d : Nat) (w : World) (h : At w A x n cap dx dc a) (hd : d < a.ns.length) :
    Calls Tryz.prog 198 #[.pointer (some ⟨A, 0, none⟩), .int .i64 d] w fun e w' => e = .returned (.bool (a.isBusy d)) ∧ Below w.heap.size w w' := by
  obtain ⟨b, off, da, ec, la, lc, rfl, hN, -, -⟩ := h.an d hd
  have hln := h.len
  have hdn : (d : Int) < (n : Int) := by omega
  rw [show a.isBusy d = (decide (0 < (nd a.ns d).list.length) || decide ((d : Int) = a.c.env.dir)) from rfl]
  generalize nd a.ns d = m at *
  obtain ⟨c0, -, -, -, -, -, -, -, -, -, -, -, -, cD, -⟩ := hN.act.cells
  have n8 := hN.nd.c8
  have HB : Hid (Below w.heap.size w w) := Below.refl _ _
  clear h hN hln hd
  cases hl : decide (0 < m.list.length) with
  | true =>
    have hl' : decide ((0 : Int) < (m.list.length : Int)) = true := decide_eq_true (by have := of_decide_eq_true hl; omega)
    have hl2 : 0 < m.list.length := of_decide_eq_true hl
    rw [Bool.true_or]
    generalize m.list.length = L at *
    clear hl
    go_enter Tryz.func198, Tryz.ntmps198
    go_wp2_with fail
    go_ret
    exact ⟨rfl, uh HB⟩
  | false =>
    have hl2 : m.list.length = 0 := by have := of_decide_eq_false hl; omega
    rw [hl2] at n8
    rw [Bool.false_or]
    generalize a.c.env.dir = D at *
    clear hl hl2
    go_enter Tryz.func198, Tryz.ntmps198
    go_wp2_with fail
    go_ret
    exact ⟨Pt.ret_b (by rw [Bool.eq_iff_iff]; simp), uh HB⟩
set_option maxRecDepth 100000 in
set_option maxHeartbeats 4000000 in
theorem mayCome_any (A : Nat) (x : Option Addr) (n cap : Nat) (dx : Option Addr) (dc : Nat) (a : Ac) (d : Nat) (w : World) (h : At w A x n cap dx dc a) (hd : d < a.ns.length) :
    Calls Tryz.prog 191 #[.pointer (some ⟨A, 0, none⟩), .int .i64 d] w fun e w' => e = .returned (.int .i64 (a.mayCome d)) ∧ Below w.heap.size w w' := by
  have hln := h.len
  have hsm := sm_of h.chk
  have hdn : (d : Int) < (n : Int) := by omega
  obtain ⟨b, off, da, ec, la, lc, rfl, hN, -, -⟩ := h.an d hd
  have HX : Hid (∀ (k : Nat) (W : World), k < n → At W A (some ⟨b, off, none⟩) n cap dx dc a → ∃ da dc la lc, N10 W b (off + k * 10) (nd a.ns k) (.slice da (nd a.ns k).data.length dc) (.slice la (nd a.ns k).list.length lc)) := fun k W hk hW => by
    obtain ⟨b', off', da, ec, la, lc, h1, -, h3, -, -⟩ := hW.node k (by omega)
    injection h1 with h1; injection h1 with h1 h2
    subst h1 h2
    exact ⟨da, ec, la, lc, h3⟩
  have HNS : Hid (∀ k, k < n → namesP a.ns (k + 1) = namesP a.ns k + (nd a.ns k).list.length) := fun k hk => namesP_succ a.ns k (by omega)
  have HNM : Hid (∀ k, k ≤ n → namesP a.ns k ≤ 1000000000) := fun k hk => Nat.le_trans (namesP_mono a.ns k (by omega)) hsm.hna
  have HNA : Hid (namesP a.ns a.ns.length = namesP a.ns n) := by rw [hln.1]; rfl
  have HMW : Hid (∀ W, At W A (some ⟨b, off, none⟩) n cap dx dc a → Calls Tryz.prog 199 #[.pointer (some ⟨A, 0, none⟩), .int .i64 d] W fun e w' => e = .returned (.int .i64 (a.mayWrite d)) ∧ Below W.heap.size W w') := fun W hW => mayWrite_any A _ n cap dx dc a d W hW hd
  have HWH := hide (fun b k w => when_any b k w)
  have HOR : Hid (∀ (x y : Int) (W : World), Calls Tryz.prog 187 #[.slice (some ⟨W.heap.size, 0, none⟩) 2 2] (W.alloc (.cells #[.int .i64 x, .int .i64 y] 36)) fun e w' => e = .returned (.int .i64 (orP [x, y])) ∧ w' = W.alloc (.cells #[.int .i64 x, .int .i64 y] 36)) := fun x y W => or_any [x, y] W.heap.size 2 2 _ rfl (fun i hi => by
    match i, hi with
    | 0, _ => simp
    | 1, _ => simp) (by omega)
  have HAN : Hid (∀ W, Below w.heap.size w W → An W A b off n cap dx dc a d (nd a.ns d) (.slice da (nd a.ns d).data.length ec) (.slice la (nd a.ns d).list.length lc)) := fun W hW => hN.below hW
  have HV : Hid (a.mayCome d = orP [a.mayWrite d, wh (decide (512 ≤ (nd a.ns d).list.length) || decide (2048 ≤ namesP a.ns a.ns.length)) 11]) := rfl
  rw [uh HNA] at HV
  have H := hide h
  obtain ⟨c0, -⟩ := h.cells
  obtain ⟨-, h2, h513⟩ := hln
  clear h hsm hN HNA hd
  go_enter Tryz.func191, Tryz.ntmps191
  go_wp2_with fail
  clear c0
  go_loopw [5, 7, 14] (fun v5 _ v14 wr => ∃ k : Nat, k ≤ n ∧ v14 = .int .i64 k ∧ v5 = .int .i64 (namesP a.ns k) ∧ Hid (At wr A (some ⟨b, off, none⟩) n cap dx dc a) ∧ Hid (Below w.heap.size w wr)) (fun _ _ v14 _ => n - (intOf v14).toNat)
  case atStart => exact ⟨0, Nat.zero_le _, rfl, rfl, H, Below.refl _ _⟩
  case round =>
    obtain ⟨k, hk, rfl, rfl, hA, hB⟩ := hrel
    by_cases hlt : k < n
    · have hlt' : (k : Int) < (n : Int) := by omega
      obtain ⟨da', ec', la', lc', h10⟩ := uh HX k wr hlt (uh hA)
      obtain ⟨n0, n1, n2, n3, n4, n5, n6, n7, n8, n9⟩ := h10
      have hs := hide (uh HNS k hlt)
      have hm1 := uh HNM k hk
      have hm2 := uh HNM (k + 1) hlt
      rw [uh hs] at hm2
      generalize nd a.ns k = mk at *
      have hb2 := al_below wr (.cells (na mk (.slice da' mk.data.length ec') (.slice la' mk.list.length lc')) 82)
      have HA2 := hide ((uh hA).below hb2)
      have HB2 := hide ((uh hB).trans (hb2.mono (uh hB).size))
      generalize namesP a.ns k = S0 at *
      generalize mk.list.length = ll at *
      clear hA hB hb2
      go_wp2_with fail
      go_roundw
      case rel => exact ⟨k + 1, by omega, by go_num, by rw [uh hs]; go_num, HA2, HB2⟩
      case measure => simp [intOf]; omega
    · obtain rfl : n = k := by omega
      have HA0 := hide ((uh HAN wr (uh hB)).dr)
      have BB0 := hide (below_dr (uh hB))
      clear HX HNS hA hB HAN H
      generalize namesP a.ns n = S0 at *
      generalize nd a.ns d = m at *
      cases hg : decide (512 ≤ m.list.length) with
      | true =>
        have hg1 : (512 : Int) ≤ (m.list.length : Int) := by have := of_decide_eq_true hg; omega
        have hg2 : decide ((512 : Int) ≤ (m.list.length : Int)) = true := decide_eq_true hg1
        rw [hg, Bool.true_or] at HV
        clear hg
        go_wp2_with fail
        refine wp_region_held_drew (S := (fun w' => An w' A b off n cap dx dc a d m (.slice da m.data.length ec) (.slice la m.list.length lc))) (by kernel_rfl) (uh HA0) (fun hHeld => ?_)
        refine tk 0 rfl (v := ?v16) (.inl ⟨by rfl, ?hy16⟩) ?rest16
        case hy16 => intro w hSw; have hSc := An.fa hSw; go_simp; try with_reducible rfl
        try simp only [pS]
        refine tk 1 rfl (v := ?v17) (.inl ⟨by rfl, ?hy17⟩) ?rest17
        case hy17 => intro w hSw; have hSc := An.fa hSw; go_simp; try with_reducible rfl
        try simp only [pS]
        refine tk 3 rfl (v := ?v18) (.inl ⟨by rfl, ?hy18⟩) ?rest18
        case hy18 => intro w hSw; have hSc := An.fa hSw; go_simp; try with_reducible rfl
        try simp only [pS]
        refine tk 4 rfl (v := ?v19) (.inl ⟨by rfl, ?hy19⟩) ?rest19
        case hy19 => intro w hSw; have hSc := An.fa hSw; go_simp; try with_reducible rfl
        try simp only [pS]
        refine tk 5 rfl (v := ?v20) (.inl ⟨by rfl, ?hy20⟩) ?rest20
        case hy20 => intro w hSw; have hSc := An.fa hSw; go_simp; try with_reducible rfl
        try simp only [pS]
        refine tk 6 rfl (v := ?v21) (.inl ⟨by rfl, ?hy21⟩) ?rest21
        case hy21 => intro w hSw; have hSc := An.fa hSw; go_simp; try with_reducible rfl
        try simp only [pS]
        refine tk 7 rfl (v := ?v22) (.inl ⟨by rfl, ?hy22⟩) ?rest22
        case hy22 => intro w hSw; have hSc := An.fa hSw; go_simp; try with_reducible rfl
        try simp only [pS]
        refine tk 8 rfl (v := ?v23) (.inl ⟨by rfl, ?hy23⟩) ?rest23
        case hy23 => intro w hSw; have hSc := An.fa hSw; go_simp; try with_reducible rfl
        try simp only [pS]
        refine tk 9 rfl (v := ?v24) (.inl ⟨by rfl, ?hy24⟩) ?rest24
        case hy24 => intro w hSw; have hSc := An.fa hSw; go_simp; try with_reducible rfl
        try simp only [pS]
        refine tk 10 rfl (v := ?v25) (.inl ⟨by rfl, ?hy25⟩) ?rest25
        case hy25 => intro w hSw; have hSc := An.fa hSw; go_simp; try with_reducible rfl
        try simp only [pS]
        refine tk 11 rfl (v := ?v26) (.inl ⟨by rfl, ?hy26⟩) ?rest26
        case hy26 => intro w hSw; have hSc := An.fa hSw; go_simp; try with_reducible rfl
        try simp only [pS]
        refine tk 12 rfl (v := ?v27) (.inl ⟨by rfl, ?hy27⟩) ?rest27
        case hy27 => intro w hSw; have hSc := An.fa hSw; go_simp; try with_reducible rfl
        try simp only [pS]
        refine tk 13 rfl (v := ?v28) (.inl ⟨by rfl, ?hy28⟩) ?rest28
        case hy28 => intro w hSw; have hSc := An.fa hSw; go_simp; try with_reducible rfl
        try simp only [pS]
        refine wpAnyH_ready (rs := [2]) (by kernel_rfl) (by simp) ?_
        refine rc rfl fun K hK => ?_
        go_simp
        refine (uh HMW _ (uh HA0).act).mono ?_; rintro e w1 ⟨rfl, hb1⟩; have HA1 := hide ((uh HA0).below hb1); have BB1 := hide ((uh BB0).trans (hb1.mono (uh BB0).size)); clear hb1
        go_wp2_with fail
        refine hK.out _ _ (by first | exact (uh HA1) | assumption | (dsimp only; assumption)) (fun hHeld2 => ?_)
        clear hK K
        try simp only [pS]
        refine tk 14 rfl (v := ?v29) (.inl ⟨by rfl, ?hy29⟩) ?rest29
        case hy29 => intro w hSw; have hSc := An.fa hSw; go_simp; try with_reducible rfl
        try simp only [pS]
        refine tk 15 rfl (v := undef) (.inr ⟨by rfl, rfl⟩) ?_
        try simp only [pS]
        refine tk 16 rfl (v := undef) (.inr ⟨by rfl, rfl⟩) ?_
        try simp only [pS]
        refine tk 17 rfl (v := ?v32) (.inl ⟨by rfl, ?hy32⟩) ?rest32
        case hy32 => intro w hSw; have hSc := An.fa hSw; go_simp; try with_reducible rfl
        try simp only [pS]
        refine wpAnyH_ready (rs := [18]) (by kernel_rfl) (by simp) ?_
        refine rc rfl fun K hK => ?_
        go_simp
        refine (uh HWH _ _ _).mono ?_; rintro e w2 ⟨rfl, hw2⟩; subst hw2
        go_wp2_with fail
        refine hK.out _ _ (by first | exact (uh HA1) | assumption | (dsimp only; assumption)) (fun hHeld2 => ?_)
        clear hK K
        try simp only [pS]
        refine wpAnyH_ready (rs := [19]) (by kernel_rfl) (by simp) ?_
        refine rc rfl fun K hK => ?_
        go_simp
        skip
        go_wp2_with fail
        refine hK.out _ _ (by first | exact ((uh HA1).al _) | assumption | (dsimp only; assumption)) (fun hHeld2 => ?_)
        clear hK K
        try simp only [pS]
        refine wpAnyH_ready (rs := [20]) (by kernel_rfl) (by simp) ?_
        refine rc rfl fun K hK => ?_
        go_simp
        refine (uh HOR _ _ _).mono ?_; rintro e w3 ⟨rfl, hw3⟩; subst hw3
        go_wp2_with fail
        refine hK.out _ _ (by first | exact ((uh HA1).al _) | assumption | (dsimp only; assumption)) (fun hHeld2 => ?_)
        clear hK K
        try simp only [pS]
        refine tk 21 rfl (v := ?v33) (.inl ⟨by rfl, ?hy33⟩) ?rest33
        case hy33 => intro w hSw; have hSc := An.fa hSw; go_simp; try with_reducible rfl
        try simp only [pS]
        refine wpAnyH_done (by kernel_rfl) ?_ _
        go_wp2_with fail
        go_ret
        exact ⟨by rw [uh HV]; rfl, (uh BB1).alloc (uh BB1).size _⟩
      | false =>
        have hg1 : ¬ (512 : Int) ≤ (m.list.length : Int) := by have := of_decide_eq_false hg; omega
        have hg2 : decide ((512 : Int) ≤ (m.list.length : Int)) = false := decide_eq_false hg1
        rw [hg, Bool.false_or, ← dec_nat] at HV
        clear hg
        go_wp2_with fail
        refine wp_region_held_drew (S := (fun w' => An w' A b off n cap dx dc a d m (.slice da m.data.length ec) (.slice la m.list.length lc))) (by kernel_rfl) (uh HA0) (fun hHeld => ?_)
        refine tk 0 rfl (v := ?v34) (.inl ⟨by rfl, ?hy34⟩) ?rest34
        case hy34 => intro w hSw; have hSc := An.fa hSw; go_simp; try with_reducible rfl
        try simp only [pS]
        refine tk 1 rfl (v := ?v35) (.inl ⟨by rfl, ?hy35⟩) ?rest35
        case hy35 => intro w hSw; have hSc := An.fa hSw; go_simp; try with_reducible rfl
        try simp only [pS]
        refine tk 3 rfl (v := ?v36) (.inl ⟨by rfl, ?hy36⟩) ?rest36
        case hy36 => intro w hSw; have hSc := An.fa hSw; go_simp; try with_reducible rfl
        try simp only [pS]
        refine tk 4 rfl (v := ?v37) (.inl ⟨by rfl, ?hy37⟩) ?rest37
        case hy37 => intro w hSw; have hSc := An.fa hSw; go_simp; try with_reducible rfl
        try simp only [pS]
        refine tk 5 rfl (v := ?v38) (.inl ⟨by rfl, ?hy38⟩) ?rest38
        case hy38 => intro w hSw; have hSc := An.fa hSw; go_simp; try with_reducible rfl
        try simp only [pS]
        refine tk 6 rfl (v := ?v39) (.inl ⟨by rfl, ?hy39⟩) ?rest39
        case hy39 => intro w hSw; have hSc := An.fa hSw; go_simp; try with_reducible rfl
        try simp only [pS]
        refine tk 7 rfl (v := ?v40) (.inl ⟨by rfl, ?hy40⟩) ?rest40
        case hy40 => intro w hSw; have hSc := An.fa hSw; go_simp; try with_reducible rfl
        try simp only [pS]
        refine tk 8 rfl (v := ?v41) (.inl ⟨by rfl, ?hy41⟩) ?rest41
        case hy41 => intro w hSw; have hSc := An.fa hSw; go_simp; try with_reducible rfl
        try simp only [pS]
        refine tk 9 rfl (v := ?v42) (.inl ⟨by rfl, ?hy42⟩) ?rest42
        case hy42 => intro w hSw; have hSc := An.fa hSw; go_simp; try with_reducible rfl
        try simp only [pS]
        refine tk 10 rfl (v := ?v43) (.inl ⟨by rfl, ?hy43⟩) ?rest43
        case hy43 => intro w hSw; have hSc := An.fa hSw; go_simp; try with_reducible rfl
        try simp only [pS]
        refine tk 11 rfl (v := ?v44) (.inl ⟨by rfl, ?hy44⟩) ?rest44
        case hy44 => intro w hSw; have hSc := An.fa hSw; go_simp; try with_reducible rfl
        try simp only [pS]
        refine tk 12 rfl (v := ?v45) (.inl ⟨by rfl, ?hy45⟩) ?rest45
        case hy45 => intro w hSw; have hSc := An.fa hSw; go_simp; try with_reducible rfl
        try simp only [pS]
        refine tk 13 rfl (v := ?v46) (.inl ⟨by rfl, ?hy46⟩) ?rest46
        case hy46 => intro w hSw; have hSc := An.fa hSw; go_simp; try with_reducible rfl
        try simp only [pS]
        refine wpAnyH_ready (rs := [2]) (by kernel_rfl) (by simp) ?_
        refine rc rfl fun K hK => ?_
        go_simp
        refine (uh HMW _ (uh HA0).act).mono ?_; rintro e w1 ⟨rfl, hb1⟩; have HA1 := hide ((uh HA0).below hb1); have BB1 := hide ((uh BB0).trans (hb1.mono (uh BB0).size)); clear hb1
        go_wp2_with fail
        refine hK.out _ _ (by first | exact (uh HA1) | assumption | (dsimp only; assumption)) (fun hHeld2 => ?_)
        clear hK K
        try simp only [pS]
        refine tk 14 rfl (v := ?v47) (.inl ⟨by rfl, ?hy47⟩) ?rest47
        case hy47 => intro w hSw; have hSc := An.fa hSw; go_simp; try with_reducible rfl
        try simp only [pS]
        refine tk 15 rfl (v := ?v48) (.inl ⟨by rfl, ?hy48⟩) ?rest48
        case hy48 => intro w hSw; have hSc := An.fa hSw; go_simp; try with_reducible rfl
        try simp only [pS]
        refine tk 16 rfl (v := ?v49) (.inl ⟨by rfl, ?hy49⟩) ?rest49
        case hy49 => intro w hSw; have hSc := An.fa hSw; go_simp; try with_reducible rfl
        try simp only [pS]
        refine tk 17 rfl (v := ?v50) (.inl ⟨by rfl, ?hy50⟩) ?rest50
        case hy50 => intro w hSw; have hSc := An.fa hSw; go_simp; try with_reducible rfl
        try simp only [pS]
        refine wpAnyH_ready (rs := [18]) (by kernel_rfl) (by simp) ?_
        refine rc rfl fun K hK => ?_
        go_simp
        refine (uh HWH _ _ _).mono ?_; rintro e w2 ⟨rfl, hw2⟩; subst hw2
        go_wp2_with fail
        refine hK.out _ _ (by first | exact (uh HA1) | assumption | (dsimp only; assumption)) (fun hHeld2 => ?_)
        clear hK K
        try simp only [pS]
        refine wpAnyH_ready (rs := [19]) (by kernel_rfl) (by simp) ?_
        refine rc rfl fun K hK => ?_
        go_simp
        skip
        go_wp2_with fail
        refine hK.out _ _ (by first | exact ((uh HA1).al _) | assumption | (dsimp only; assumption)) (fun hHeld2 => ?_)
        clear hK K
        try simp only [pS]
        refine wpAnyH_ready (rs := [20]) (by kernel_rfl) (by simp) ?_
        refine rc rfl fun K hK => ?_
        go_simp
        refine (uh HOR _ _ _).mono ?_; rintro e w3 ⟨rfl, hw3⟩; subst hw3
        go_wp2_with fail
        refine hK.out _ _ (by first | exact ((uh HA1).al _) | assumption | (dsimp only; assumption)) (fun hHeld2 => ?_)
        clear hK K
        try simp only [pS]
        refine tk 21 rfl (v := ?v51) (.inl ⟨by rfl, ?hy51⟩) ?rest51
        case hy51 => intro w hSw; have hSc := An.fa hSw; go_simp; try with_reducible rfl
        try simp only [pS]
        refine wpAnyH_done (by kernel_rfl) ?_ _
        go_wp2_with fail
        go_ret
        exact ⟨by rw [uh HV]; rfl, (uh BB1).alloc (uh BB1).size _⟩
end Go.Proofs.YtidhceebafmlkaaGreatDoor.Ca
