import Derived.Test.YtidhceebafmlkaaGreatDoorCaDo
import Derived.Test.YtidhceebafmlkaaGreatDoorCaLivesP
import Derived.Test.YtidhceebafmlkaaGreatDoorTrFind
import Derived.Lib.BufferRead
import Derived.Lib.SlBytesConst
import Derived.Test.YtidhceebafmlkaaGreatDoorCaAct
namespace Go.Proofs.YtidhceebafmlkaaGreatDoor.Ca
open Go.RowKit Cu Tr Pm Pt
structure Kb (w W : World) (L : List (Nat × Obj)) : Prop where
  bel : Below w.heap.size w W
  has : ∀ p ∈ L, W.heap[p.1]? = some p.2
theorem Kb.below {w W W' : World} {L : List (Nat × Obj)} (h : Kb w W L) (hb : Below W.heap.size W W') : Kb w W' L :=
  ⟨h.bel.trans (hb.mono h.bel.size), fun p hp => (hb.block _ (Array.getElem?_eq_some_iff.1 (h.has p hp)).1).trans (h.has p hp)⟩
theorem Kb.al {w W : World} {L : List (Nat × Obj)} (h : Kb w W L) (o : Obj) : Kb w (W.alloc o) ((W.heap.size, o) :: L) :=
  ⟨(h.below (al_below W o)).bel, fun p hp => by
    rcases List.mem_cons.1 hp with rfl | hp
    · exact heap_alloc_new W o
    · exact (h.below (al_below W o)).has p hp⟩
theorem Kb.w {w W : World} {L : List (Nat × Obj)} (_h : Kb w W L) : ∃ W', W = W' := ⟨_, rfl⟩
theorem bx2 {W : World} {b : Nat} {t : TypeId} {u v : Value} (h : W.heap[b]? = some (.cells #[u, v] t (0, 0))) : W.cell? ⟨b, 0, none⟩ = some u ∧ W.cell? ⟨b, 1, none⟩ = some v :=
  ⟨cell_of_row _ _ _ _ _ _ h, cell_of_row _ _ _ _ _ _ h⟩
theorem bx4 {W : World} {b : Nat} {t : TypeId} {u v x y : Value} (h : W.heap[b]? = some (.cells #[u, v, x, y] t (0, 0))) : W.cell? ⟨b, 0, none⟩ = some u ∧ W.cell? ⟨b, 1, none⟩ = some v ∧ W.cell? ⟨b, 2, none⟩ = some x ∧ W.cell? ⟨b, 3, none⟩ = some y :=
  ⟨cell_of_row _ _ _ _ _ _ h, cell_of_row _ _ _ _ _ _ h, cell_of_row _ _ _ _ _ _ h, cell_of_row _ _ _ _ _ _ h⟩
theorem Ot.sl {w : World} {B : Nat} {v : Value} {ns : List Nd} (h : Ot w B v ns) : ∃ a n c, v = .slice a n c := by
  obtain ⟨l, hl, -⟩ := h
  obtain ⟨a, c, e⟩ := own_sl hl
  exact ⟨a, _, c, e⟩
theorem Ot.ng {w : World} {B : Nat} {v : Value} {ns : List Nd} (h : Ot w B v ns) : ∃ a c, v = .slice a ns.length c ∧ Ng w a ns.length c ns := by
  obtain ⟨l, h1, h2, -, h4⟩ := h
  obtain ⟨a, c, e, hn⟩ := ng_of_own h1 fun x hx => ox_of (h2 x hx)
  have : l.length = ns.length := by rw [← h4, List.length_map]
  rw [this, h4] at hn
  rw [this] at e
  exact ⟨a, c, e, hn⟩
theorem by_nil (w : World) : By w none ([] : Bs).length 0 [] := ⟨rfl, Nat.le_refl _, fun _ => ⟨rfl, rfl⟩, .inl rfl⟩
theorem by_hi {w : World} {g : Nat} (h : w.heap[g]? = some (.cells #[.int .u8 104, .int .u8 105] 5 (2, 3))) : By w (some ⟨g, 0, none⟩) ([104, 105] : Bs).length 2 [104, 105] :=
  ⟨rfl, Nat.le_refl _, fun e => (nomatch e), .inr ⟨g, 0, rfl, (Array.getElem?_eq_some_iff.1 h).1, fun i hi => by
    match i, hi with
    | 0, _ => simp [World.cell?, h]
    | 1, _ => simp [World.cell?, h]⟩⟩
theorem lvL1 : lvT1.length = 3 := by decide +kernel
theorem lvL2 : lvT2.length = 3 := by decide +kernel
section
variable {W : World}
theorem lvD1 (g0 : Nat) (hn : Ng W (some ⟨g0, 0, none⟩) 2 2 newT) (hr : Rw W) :
    Calls Tryz.prog 13 #[.agg #[.slice (some ⟨g0, 0, none⟩) 2 2, .int .i64 0], .agg #[.int .u8 1, .string ⟨#[97]⟩, .string ⟨#[]⟩, .int .i64 0, .int .i64 0, .int .i64 0, .int .i64 0, .slice none 0 0, .int .i64 5, .int .i64 0, .int .i64 0, .int .i64 1]] W fun e W' => (∃ a n c x, e = .returned (.tuple #[.agg #[.slice a n c, .int .i64 x], .int .i64 10])) ∧ Below W.heap.size W W' := by
  refine (do_any (some ⟨g0, 0, none⟩) 2 2 none 0 0 newT lc1 W hn (sm_of lvS0) (by_nil W) hr (by decide) (by decide) (by decide)).mono ?_
  rintro e W' ⟨⟨v, rfl, hot⟩, hb⟩
  obtain ⟨a, n, c, rfl⟩ := hot.sl
  exact ⟨⟨a, n, c, _, by rw [lv1]⟩, hb⟩
theorem lvD2 (g0 g : Nat) (hn : Ng W (some ⟨g0, 0, none⟩) 2 2 newT) (hd : W.heap[g]? = some (.cells #[.int .u8 104, .int .u8 105] 5 (2, 3))) (hr : Rw W) :
    Calls Tryz.prog 13 #[.agg #[.slice (some ⟨g0, 0, none⟩) 2 2, .int .i64 0], .agg #[.int .u8 1, .string ⟨#[97]⟩, .string ⟨#[]⟩, .int .i64 420, .int .i64 0, .int .i64 0, .int .i64 0, .slice (some ⟨g, 0, none⟩) 2 2, .int .i64 0, .int .i64 0, .int .i64 18, .int .i64 1]] W fun e W' => (∃ a c, e = .returned (.tuple #[.agg #[.slice a 3 c, .int .i64 0], .int .i64 0]) ∧ Ng W' a 3 c lvT1) ∧ Below W.heap.size W W' := by
  refine (do_any (some ⟨g0, 0, none⟩) 2 2 (some ⟨g, 0, none⟩) 2 0 newT lc2 W hn (sm_of lvS0) (by_hi hd) hr (by decide) (by decide) (by decide)).mono ?_
  rintro e W' ⟨⟨v, rfl, hot⟩, hb⟩
  obtain ⟨a, c, rfl, hn⟩ := Ot.ng (ns := lvT1) hot
  rw [lvL1] at hn ⊢
  refine ⟨⟨a, c, ?_, hn⟩, hb⟩
  rw [lv2.1, lv2.2]
theorem lvD3 (va : Option Addr) (vc : Nat) (hn : Ng W va 3 vc lvT1) (hr : Rw W) :
    Calls Tryz.prog 13 #[.agg #[.slice va 3 vc, .int .i64 0], .agg #[.int .u8 3, .string ⟨#[97]⟩, .string ⟨#[]⟩, .int .i64 0, .int .i64 0, .int .i64 0, .int .i64 0, .slice none 0 0, .int .i64 0, .int .i64 0, .int .i64 18, .int .i64 1]] W fun e W' => (∃ a n c x, e = .returned (.tuple #[.agg #[.slice a n c, .int .i64 x], .int .i64 7])) ∧ Below W.heap.size W W' := by
  refine (do_any va 3 vc none 0 0 lvT1 lc3 W hn (sm_of lvS1) (by_nil W) hr (by decide) (by decide) (by decide)).mono ?_
  rintro e W' ⟨⟨v, rfl, hot⟩, hb⟩
  obtain ⟨a, n, c, rfl⟩ := hot.sl
  exact ⟨⟨a, n, c, _, by rw [lv3]⟩, hb⟩
theorem lvD5 (va : Option Addr) (vc : Nat) (hn : Ng W va 3 vc lvT1) (hr : Rw W) :
    Calls Tryz.prog 13 #[.agg #[.slice va 3 vc, .int .i64 0], .agg #[.int .u8 6, .string ⟨#[97]⟩, .string ⟨#[97]⟩, .int .i64 0, .int .i64 0, .int .i64 0, .int .i64 0, .slice none 0 0, .int .i64 0, .int .i64 0, .int .i64 18, .int .i64 1]] W fun e W' => (∃ a n c x, e = .returned (.tuple #[.agg #[.slice a n c, .int .i64 x], .int .i64 7])) ∧ Below W.heap.size W W' := by
  refine (do_any va 3 vc none 0 0 lvT1 lc5 W hn (sm_of lvS1) (by_nil W) hr (by decide) (by decide) (by decide)).mono ?_
  rintro e W' ⟨⟨v, rfl, hot⟩, hb⟩
  obtain ⟨a, n, c, rfl⟩ := hot.sl
  exact ⟨⟨a, n, c, _, by rw [lv5]⟩, hb⟩
theorem lvD4 (va : Option Addr) (vc : Nat) (hn : Ng W va 3 vc lvT1) (hr : Rw W) :
    Calls Tryz.prog 13 #[.agg #[.slice va 3 vc, .int .i64 0], .agg #[.int .u8 8, .string ⟨#[97]⟩, .string ⟨#[98]⟩, .int .i64 0, .int .i64 0, .int .i64 0, .int .i64 0, .slice none 0 0, .int .i64 0, .int .i64 0, .int .i64 18, .int .i64 1]] W fun e W' => (∃ a c, e = .returned (.tuple #[.agg #[.slice a 3 c, .int .i64 0], .int .i64 0]) ∧ Ng W' a 3 c lvT2) ∧ Below W.heap.size W W' := by
  refine (do_any va 3 vc none 0 0 lvT1 lc4 W hn (sm_of lvS1) (by_nil W) hr (by decide) (by decide) (by decide)).mono ?_
  rintro e W' ⟨⟨v, rfl, hot⟩, hb⟩
  obtain ⟨a, c, rfl, hn⟩ := Ot.ng (ns := lvT2) hot
  rw [lvL2] at hn ⊢
  refine ⟨⟨a, c, ?_, hn⟩, hb⟩
  rw [lv4.1, lv4.2]
theorem lvRD (va : Option Addr) (vc : Nat) (hn : Ng W va 3 vc lvT1) : Calls Tryz.prog 20 #[.agg #[.slice va 3 vc, .int .i64 0], .agg #[.int .i64 5, .int .i64 0, .int .i64 0, .int .i64 1], .string ⟨#[47, 97]⟩] W fun e W' => (∃ a c, e = .returned (.tuple #[.slice a 2 c, .int .i64 0]) ∧ W'.ownsRow W.heap.size 5 1 (.slice a 2 c) 2 (Lib.byteCells [104, 105])) ∧ Below W.heap.size W W' := by
  refine (read_any va 3 vc 0 lvT1 lvU tSA W hn (sm_of lvS1) (by decide)).mono ?_
  rintro e W' ⟨⟨v, rfl, ho⟩, hb⟩
  rw [lvRd.1, lvRd.2] at *
  obtain ⟨a, c, rfl⟩ := own_sl ho
  exact ⟨⟨a, c, rfl, ho⟩, hb⟩
theorem lvFD (va : Option Addr) (vc : Nat) (hn : Ng W va 3 vc lvT2) : Calls Tryz.prog 44 #[.agg #[.slice va 3 vc, .int .i64 0], .int .i64 1, .string ⟨#[98]⟩] W fun e W' => e = .returned (.int .i64 2) ∧ Below W.heap.size W W' := by
  have := Tr.find_any va 3 vc lvT2 0 1 tB W hn (sm_of lvS2)
  rw [lvFd] at this
  exact this
end
theorem cv_same' (w : World) (C : Array Value) (n c : Nat) : (convert 30 30 (.slice (some ⟨w.heap.size, 0, none⟩) n c)).run Tryz.prog (w.alloc (.cells C 5)) = .ok (.slice (some ⟨w.heap.size, 0, none⟩) n c) (w.alloc (.cells C 5 (C.size, C.size + 1))) :=
  Lib.run_convert_bytes_const (P := Tryz.prog) w 30 5 C n c Tryz.underlying30 Tryz.underlying5
theorem cv_back' {W : World} {base : Nat} {v : Value} (l : List UInt8) (h : W.ownsRow base 5 1 v l.length (Lib.byteCells l)) : (convert 30 9 v).run Tryz.prog W = .ok (.string ⟨l.toArray⟩) W := by
  rcases h.2 with ⟨rfl, h0⟩ | ⟨g, cap, cur, rfl, _⟩
  · obtain rfl : l = [] := List.eq_nil_of_length_eq_zero h0
    exact Lib.run_convert_nil_bytes W 30 9 5 0 Tryz.underlying30 Tryz.underlying5 Tryz.underlying9
  · refine run_convert_bytes_back W 30 9 5 ⟨g, 0, none⟩ cap l Tryz.underlying30 Tryz.underlying5 Tryz.underlying9 ?_
    intro j hj
    exact h.cells (g := g) rfl j _ (by simp [Lib.byteCells, List.getElem?_eq_getElem hj])
set_option maxRecDepth 100000 in
set_option maxHeartbeats 2000000 in
theorem lives_any (w : World) (hr : Rw w) : Calls Tryz.prog 10 #[] w fun e w' => e = .returned (.bool true) ∧ Below w.heap.size w w' := by
  have HR := hide hr
  clear hr
  go_enter Tryz.func10, Tryz.ntmps10
  go_wp2_with fail
  refine (new_any _).mono ?_
  rintro e w1 ⟨rfl, hg, hb⟩
  have hn0 := new_ng hg
  clear hg
  generalize w.heap.size + 1 = g0 at *
  have hk0 : Kb w w1 [] := ⟨hb, fun p hp => by cases hp⟩
  clear hb
  go_upto_region 4 with fail
  have hk := ((hk0.al (.cells #[.slice (some ⟨g0, 0, none⟩) 2 2, .int .i64 0] 24)).al (.cells #[.int .i64 0, .int .i64 0, .int .i64 18, .int .i64 1] 32)).al (.cells #[.int .i64 5, .int .i64 0, .int .i64 0, .int .i64 1] 32)
  have hn := ((hn0.below (al_below w1 (.cells #[.slice (some ⟨g0, 0, none⟩) 2 2, .int .i64 0] 24))).below (al_below _ (.cells #[.int .i64 0, .int .i64 0, .int .i64 18, .int .i64 1] 32))).below (al_below _ (.cells #[.int .i64 5, .int .i64 0, .int .i64 0, .int .i64 1] 32))
  simp only [World.size_alloc] at hk
  generalize w1.heap.size = b at *
  obtain ⟨V3, e3⟩ := hk.w
  rw [e3] at hk hn ⊢
  clear e3 hk0 hn0
  obtain ⟨t0, t1⟩ := bx2 (hk.has (b, .cells #[.slice (some ⟨g0, 0, none⟩) 2 2, .int .i64 0] 24) (by simp))
  obtain ⟨u0, u1, u2, u3⟩ := bx4 (hk.has (b + 1 + 1, .cells #[.int .i64 5, .int .i64 0, .int .i64 0, .int .i64 1] 32) (by simp))
  go_wp2_with fail
  refine (lvD1 g0 hn ((uh HR).below hk.bel)).mono ?_
  rintro e W' ⟨⟨xa, xn, xc, xx, rfl⟩, hb⟩
  replace hk := (hk.below hb).al (.cells #[.slice xa xn xc, .int .i64 xx] 24)
  replace hn := (hn.below hb).below (al_below W' (.cells #[.slice xa xn xc, .int .i64 xx] 24))
  clear hb t0 t1 u0 u1 u2 u3
  go_upto_region 5 with fail
  obtain ⟨V4, e4⟩ := hk.w
  rw [e4] at hk hn ⊢
  clear e4
  obtain ⟨t0, t1⟩ := bx2 (hk.has (b, .cells #[.slice (some ⟨g0, 0, none⟩) 2 2, .int .i64 0] 24) (by simp))
  have hk2 := hk.al (.cells #[.int .u8 104, .int .u8 105] 5 (2, 3))
  have hn2 := hn.below (al_below V4 (.cells #[.int .u8 104, .int .u8 105] 5 (2, 3)))
  have hd2 := heap_alloc_new V4 (.cells #[.int .u8 104, .int .u8 105] 5 (2, 3))
  obtain ⟨u0, u1, u2, u3⟩ := bx4 (hk2.has (b + 1, .cells #[.int .i64 0, .int .i64 0, .int .i64 18, .int .i64 1] 32) (by simp))
  have hcs := cv_same' V4 #[.int .u8 104, .int .u8 105] 2 2
  clear hk hn
  go_wp2_with fail
  refine (lvD2 g0 V4.heap.size hn2 hd2 ((uh HR).below hk2.bel)).mono ?_
  rintro e W' ⟨⟨va, vc, rfl, hna⟩, hb⟩
  have hk := (hk2.below hb).al (.cells #[.slice va 3 vc, .int .i64 0] 24)
  have hn := hna.below (al_below W' (.cells #[.slice va 3 vc, .int .i64 0] 24))
  clear hb t0 t1 u0 u1 u2 u3 hk2 hn2 hd2 hna hcs
  go_upto_region 6 with fail
  generalize W'.heap.size = ba at *
  obtain ⟨V5, e5⟩ := hk.w
  rw [e5] at hk hn ⊢
  clear e5
  obtain ⟨t0, t1⟩ := bx2 (hk.has (ba, .cells #[.slice va 3 vc, .int .i64 0] 24) (by simp))
  obtain ⟨u0, u1, u2, u3⟩ := bx4 (hk.has (b + 1 + 1, .cells #[.int .i64 5, .int .i64 0, .int .i64 0, .int .i64 1] 32) (by simp))
  go_wp2_with fail
  refine (lvRD va vc hn).mono ?_
  rintro e V6 ⟨⟨ra, rc, rfl, ho⟩, hb⟩
  replace hk := hk.below hb
  replace hn := hn.below hb
  clear hb t0 t1 u0 u1 u2 u3
  go_upto_region 7 with fail
  obtain ⟨t0, t1⟩ := bx2 (hk.has (ba, .cells #[.slice va 3 vc, .int .i64 0] 24) (by simp))
  obtain ⟨u0, u1, u2, u3⟩ := bx4 (hk.has (b + 1, .cells #[.int .i64 0, .int .i64 0, .int .i64 18, .int .i64 1] 32) (by simp))
  go_wp2_with fail
  refine (lvD3 va vc hn ((uh HR).below hk.bel)).mono ?_
  rintro e W' ⟨⟨xa, xn, xc, xx, rfl⟩, hb⟩
  replace hk := (hk.below hb).al (.cells #[.slice xa xn xc, .int .i64 xx] 24)
  replace hn := (hn.below hb).below (al_below W' (.cells #[.slice xa xn xc, .int .i64 xx] 24))
  replace ho := own_keep ho (fun k q => (hb.trans ((al_below W' (.cells #[.slice xa xn xc, .int .i64 xx] 24)).mono hb.size)).block k (ho.lt k q).2)
  clear hb t0 t1 u0 u1 u2 u3
  go_upto_region 8 with fail
  obtain ⟨V7, e7⟩ := hk.w
  rw [e7] at hk hn ho ⊢
  clear e7
  obtain ⟨t0, t1⟩ := bx2 (hk.has (ba, .cells #[.slice va 3 vc, .int .i64 0] 24) (by simp))
  obtain ⟨u0, u1, u2, u3⟩ := bx4 (hk.has (b + 1, .cells #[.int .i64 0, .int .i64 0, .int .i64 18, .int .i64 1] 32) (by simp))
  go_wp2_with fail
  refine (lvD4 va vc hn ((uh HR).below hk.bel)).mono ?_
  rintro e W' ⟨⟨wa, wc, rfl, hnc⟩, hb⟩
  replace ho := own_keep ho (fun k q => (hb.trans ((al_below W' (.cells #[.slice wa 3 wc, .int .i64 0] 24)).mono hb.size)).block k (ho.lt k q).2)
  replace hk := (hk.below hb).al (.cells #[.slice wa 3 wc, .int .i64 0] 24)
  replace hn := (hn.below hb).below (al_below W' (.cells #[.slice wa 3 wc, .int .i64 0] 24))
  replace hnc := hnc.below (al_below W' (.cells #[.slice wa 3 wc, .int .i64 0] 24))
  clear hb t0 t1 u0 u1 u2 u3
  go_upto_region 9 with fail
  generalize W'.heap.size = bc at *
  obtain ⟨V8, e8⟩ := hk.w
  rw [e8] at hk hn hnc ho ⊢
  clear e8
  obtain ⟨t0, t1⟩ := bx2 (hk.has (ba, .cells #[.slice va 3 vc, .int .i64 0] 24) (by simp))
  obtain ⟨u0, u1, u2, u3⟩ := bx4 (hk.has (b + 1, .cells #[.int .i64 0, .int .i64 0, .int .i64 18, .int .i64 1] 32) (by simp))
  go_wp2_with fail
  refine (lvD5 va vc hn ((uh HR).below hk.bel)).mono ?_
  rintro e W' ⟨⟨xa, xn, xc, xx, rfl⟩, hb⟩
  replace hk := (hk.below hb).al (.cells #[.slice xa xn xc, .int .i64 xx] 24)
  replace hn := (hn.below hb).below (al_below W' (.cells #[.slice xa xn xc, .int .i64 xx] 24))
  replace ho := own_keep ho (fun k q => (hb.trans ((al_below W' (.cells #[.slice xa xn xc, .int .i64 xx] 24)).mono hb.size)).block k (ho.lt k q).2)
  replace hnc := (hnc.below hb).below (al_below W' (.cells #[.slice xa xn xc, .int .i64 xx] 24))
  clear hb t0 t1 u0 u1 u2 u3
  go_upto_region 10 with fail
  obtain ⟨V9, e9⟩ := hk.w
  rw [e9] at hk hn hnc ho ⊢
  clear e9
  obtain ⟨t0, t1⟩ := bx2 (hk.has (bc, .cells #[.slice wa 3 wc, .int .i64 0] 24) (by simp))
  have hcv := cv_back' [104, 105] ho
  go_wp2_with fail
  refine (lvFD wa wc hnc).mono ?_
  rintro e V10 ⟨rfl, hb⟩
  have HB := hide (hk.bel.trans (hb.mono hk.bel.size))
  clear hb t0 t1 hk hn hnc ho hcv HR
  go_wp2_with fail
  go_ret
  exact ⟨rfl, uh HB⟩
end Go.Proofs.YtidhceebafmlkaaGreatDoor.Ca

namespace Go.Proofs.YtidhceebafmlkaaGreatDoor.Ca
open Go.RowKit Cu Tr Pm Pt
theorem prt_one : ∀ (s c : Bs), (∀ x ∈ s, x ≠ 47) → prt c s = if c ++ s = [] then [] else [tx (c ++ s)]
  | [], c, _ => by rw [List.append_nil]; rfl
  | x :: s, c, h => by
    rw [prt, if_neg (h x (List.mem_cons_self ..)), prt_one s _ fun y hy => h y (List.mem_cons_of_mem _ hy), List.append_assoc]
    rfl
theorem one_parts {s : ByteArray} (h47 : hasB s 47 = false) (h0 : ¬ s.size = 0) : partsP s = [s] ∧ begins s = false ∧ ends s = false := by
  have hn : ∀ x ∈ bs s, x ≠ 47 := fun x hx e => by
    subst e
    unfold hasB at h47
    exact of_decide_eq_false h47 hx
  have hl : (bs s).length = s.size := rfl
  refine ⟨?_, decide_eq_false fun e => ?_, decide_eq_false fun e => ?_⟩
  · unfold partsP
    rw [prt_one _ _ hn, List.nil_append, if_neg fun e => h0 (by rw [← hl, e]; rfl)]
    simp [tx, bs]
  · exact hn 47 (List.mem_of_mem_head? e) rfl
  · exact hn 47 (List.mem_of_getLast? e) rfl
theorem find_one {now : Int} {ns : List Nd} {e : Ev} {s : ByteArray} {p : Pl} (h47 : hasB s 47 = false) (h : findA now ns e s false = (p, 0)) :
    someP now ns e = true ∧ ¬ s.size = 0 ∧ badP s = false ∧ s.size ≤ 64 ∧ ∃ d : Nat, e.dir = (d : Int) ∧ Dr ns d ∧ mayP (nd ns d) e 1 = true ∧ ((dotsP s = true ∧ p.name = ⟨#[]⟩) ∨ (dotsP s = false ∧ p = ⟨(d : Int), s, findP (nd ns d).list s, false⟩)) := by
  unfold findA at h
  cases hq : someP now ns e with
  | false => rw [if_pos hq] at h; cases h
  | true =>
    obtain ⟨hck, d, hed, hdr⟩ := some_dir hq
    rw [if_neg (by rw [hq]; decide)] at h
    unfold inPath at h
    split at h
    · cases h
    rename_i h0
    split at h
    · cases h
    rename_i hb
    obtain ⟨h1, h2, h3⟩ := one_parts h47 h0
    rw [h1, h2, h3, if_neg (by decide), hed, Int.toNat_natCast, leadP] at h
    have hm : mayP (nd ns d) e 1 = true := by
      cases hm : mayP (nd ns d) e 1 with
      | false => rw [goP, if_pos hm] at h; cases h
      | true => rfl
    have h64 : s.size ≤ 64 := by
      refine Nat.le_of_not_lt fun w => ?_
      rw [goP, if_neg (by rw [hm]; decide), if_pos w] at h
      cases h
    refine ⟨rfl, h0, by simpa using hb, h64, d, hed, hdr, hm, ?_⟩
    rcases goP_cases (e := e) (follow := false) (next := leadP ns e false 16) (dirs := false) (s := s) (l := []) hck hdr with ⟨k, hk, _, hg⟩ | ⟨x, _, hx, h3, hg⟩ | ⟨ht, h3, hg⟩ | ⟨m, ht, _, h3, hk⟩
    · rw [hg] at h
      injection h with _ h
      omega
    · rw [hg, goP] at h
      injection h with h
      exact .inl ⟨h3, by rw [← h]⟩
    · rw [hg, if_pos rfl] at h
      injection h with h
      exact .inr ⟨h3, by rw [← (take_find ht h3).2, ← h]⟩
    · have hp : goP ns e false (leadP ns e false 16) false d [s] = (⟨(d : Int), s, (m : Int), false⟩, 0) := by
        rcases hk with ⟨_, hg⟩ | ⟨_, _, hg⟩ | ⟨_, _, hg⟩
        · rw [hg, if_neg (by simp)]
        · rw [hg, if_pos rfl]
        · rw [hg, if_neg (by simp)]
      rw [hp] at h
      injection h with h
      exact .inr ⟨h3, by rw [← (take_find ht h3).2, ← h]⟩
theorem find_at {now : Int} {ns : List Nd} {e : Ev} {s : ByteArray} {d : Nat} (h47 : hasB s 47 = false) (he : someP now ns e = true) (h0 : ¬ s.size = 0) (hb : badP s = false) (h64 : s.size ≤ 64) (hed : e.dir = (d : Int)) (hdr : Dr ns d) (hm : mayP (nd ns d) e 1 = true) (h3 : dotsP s = false) :
    findA now ns e s false = (⟨(d : Int), s, findP (nd ns d).list s, false⟩, 0) := by
  obtain ⟨hck, _⟩ := some_dir he
  obtain ⟨h1, h2, hn⟩ := one_parts h47 h0
  have h4 := h3
  unfold dotsP at h4
  simp only [Bool.or_eq_false_iff, decide_eq_false_iff_not] at h4
  have ht : takeP ns e d s = (findP (nd ns d).list s, 0) := by
    unfold takeP
    rw [if_neg (by rw [hm]; decide), if_neg (by omega), if_neg h4.1, if_neg h4.2]
  unfold findA
  rw [if_neg (by rw [he]; decide)]
  unfold inPath
  rw [if_neg h0, if_neg (by rw [hb]; decide), h1, h2, hn, if_neg (by decide), hed, Int.toNat_natCast, leadP]
  rcases goP_cases (e := e) (follow := false) (next := leadP ns e false 16) (dirs := false) (s := s) (l := []) hck hdr with ⟨k, hk, h, _⟩ | ⟨_, _, _, h, _⟩ | ⟨h, _, hg⟩ | ⟨m, h, _, _, hk⟩
  · rw [ht] at h
    injection h with _ h
    omega
  · rw [h3] at h; cases h
  · rw [ht] at h
    injection h with h
    rw [hg, if_pos rfl, h]
  · rw [ht] at h
    injection h with h
    rw [h]
    rcases hk with ⟨_, hg⟩ | ⟨_, _, hg⟩ | ⟨_, _, hg⟩
    · rw [hg, if_neg (by simp)]
    · rw [hg, if_pos rfl]
    · rw [hg, if_neg (by simp)]
end Go.Proofs.YtidhceebafmlkaaGreatDoor.Ca
