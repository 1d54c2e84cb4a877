import Derived.Test.YtidhceebafmlkaaGreatDoorCaMay
import Derived.BigRegion
import Derived.Test.YtidhceebafmlkaaGreatDoorCaStore
namespace Go.Proofs.YtidhceebafmlkaaGreatDoor.Ca
open Go.RowKit Cu Tr Pm Pt
structure Rw (w : World) : Prop where
  lt : 1 < w.heap.size
  tab : ∀ k : UInt8, k.toNat < 13 → w.cell? ⟨1, k.toNat * 3, none⟩ = some (.int .i64 ((rowOf k).1 : Nat)) ∧ w.cell? ⟨1, k.toNat * 3 + 1, none⟩ = some (.bool (rowOf k).2.1) ∧ w.cell? ⟨1, k.toNat * 3 + 2, none⟩ = some (.bool (rowOf k).2.2)
theorem Rw.below {w w' : World} (h : Rw w) (hb : Below w.heap.size w w') : Rw w' :=
  ⟨Nat.lt_of_lt_of_le h.lt hb.size, fun k hk => by
    obtain ⟨a, b, c⟩ := h.tab k hk
    exact ⟨(hb.cell h.lt).trans a, (hb.cell h.lt).trans b, (hb.cell h.lt).trans c⟩⟩
structure Mb (W : World) (B : Nat) (c : Cl) (dx : Option Addr) (dc : Nat) : Prop where
  box : W.heap[B]? = some (.cells (clA c (.slice dx c.data.length dc)) 34 (0, 0))
  rw : Rw W
theorem Mb.below {W W' : World} {B : Nat} {c : Cl} {dx : Option Addr} {dc : Nat} (h : Mb W B c dx dc) (hb : Below W.heap.size W W') : Mb W' B c dx dc :=
  ⟨(hb.block _ (Array.getElem?_eq_some_iff.1 h.box).1).trans h.box, h.rw.below hb⟩
theorem Mb.dr {W : World} {B : Nat} {c : Cl} {dx : Option Addr} {dc : Nat} (h : Mb W B c dx dc) : Mb W.drew B c dx dc := h.below (below_drew W 1)
theorem Mb.cl {W : World} {B : Nat} {c : Cl} {dx : Option Addr} {dc : Nat} (h : Mb W B c dx dc) :
    W.cell? ⟨B, 0, none⟩ = some (.int .u8 (c.kind.toNat : Int)) ∧ W.cell? ⟨B, 1, none⟩ = some (.string c.path) ∧ W.cell? ⟨B, 2, none⟩ = some (.string c.other) ∧ W.cell? ⟨B, 3, none⟩ = some (.int .i64 c.mode) ∧ W.cell? ⟨B, 4, none⟩ = some (.int .i64 c.user) ∧ W.cell? ⟨B, 5, none⟩ = some (.int .i64 c.group) ∧ W.cell? ⟨B, 6, none⟩ = some (.int .i64 c.time) ∧ W.cell? ⟨B, 7, none⟩ = some (.slice dx c.data.length dc) ∧ W.cell? ⟨B, 8, none⟩ = some (.int .i64 c.env.user) ∧ W.cell? ⟨B, 9, none⟩ = some (.int .i64 c.env.group) ∧ W.cell? ⟨B, 10, none⟩ = some (.int .i64 c.env.mask) ∧ W.cell? ⟨B, 11, none⟩ = some (.int .i64 c.env.dir) := cl_cells h.box
theorem Mb.tab {W : World} {B : Nat} {c : Cl} {dx : Option Addr} {dc : Nat} (h : Mb W B c dx dc) (hk : (c.kind.toNat : Int) < 13) : W.cell? ⟨1, c.kind.toNat * 3, none⟩ = some (.int .i64 ((rowOf c.kind).1 : Nat)) ∧ W.cell? ⟨1, c.kind.toNat * 3 + 1, none⟩ = some (.bool (rowOf c.kind).2.1) ∧ W.cell? ⟨1, c.kind.toNat * 3 + 2, none⟩ = some (.bool (rowOf c.kind).2.2) := h.rw.tab c.kind (by omega)
theorem row_lt (k : UInt8) : (rowOf k).1 < 64 := by
  unfold rowOf
  (repeat' split) <;> decide
theorem fields_lt (c : Cl) : fieldsP c < 64 := by
  unfold fieldsP bitIf
  (repeat' split) <;> omega
theorem not64 : ∀ a, a < 64 → ∀ b, b < 64 → (bits .andNot .i64 ((a : Nat) : Int) ((b : Nat) : Int) != 0) = !sub a b := by decide +kernel
theorem may_is (c : Cl) : mayBeP c = (!(((c.kind.toNat : Int) == 0) || decide (13 ≤ (c.kind.toNat : Int)) || !sub (fieldsP c) (rowOf c.kind).1) && (decide (0 ≤ c.mode) && decide (c.mode ≤ 511) && ownP c.user && ownP c.group && decide ((if c.kind = 12 then 0 else -1) ≤ c.time) && decide (c.time ≤ 1099511627775))) := by
  have e1 : ((c.kind.toNat : Int) == 0) = decide (c.kind = 0) := kd_eq c.kind 0
  have e2 : decide (13 ≤ (c.kind.toNat : Int)) = !decide (c.kind.toNat < 13) := by
    rw [Bool.eq_iff_iff]; simp; omega
  rw [e1, e2]
  unfold mayBeP
  simp only [Bool.not_or, Bool.not_not, Bool.and_assoc, ne_eq, decide_not]
set_option maxRecDepth 100000 in
set_option maxHeartbeats 2000000 in
theorem mayBe_any (c : Cl) (dx : Option Addr) (dc : Nat) (w : World) (hr : Rw w) :
    Calls Tryz.prog 47 #[.agg (clA c (.slice dx c.data.length dc))] w fun e w' => e = .returned (.bool (mayBeP c)) ∧ Below w.heap.size w w' := by
  rw [may_is]
  obtain ⟨b1, hb1⟩ : ∃ b1, b1 = (((c.kind.toNat : Int) == 0) || decide (13 ≤ (c.kind.toNat : Int)) || !sub (fieldsP c) (rowOf c.kind).1) := ⟨_, rfl⟩
  rw [← hb1]
  obtain ⟨lt, hlt⟩ : ∃ lt : Int, lt = if c.kind = 12 then 0 else -1 := ⟨_, rfl⟩
  rw [← hlt]
  have HB1 := hide hb1
  have hwr : IntKind.i64.wrap (c.kind.toNat : Int) = (c.kind.toNat : Int) := by rw [IntWalk.i64_left]; have := c.kind.toNat_lt; unfold wrap64; omega
  have HLT := hide hlt
  have HFL : Hid (∀ W, Calls Tryz.prog 117 #[.agg (clA c (.slice dx c.data.length dc))] W fun e w' => e = .returned (.int .i64 (fieldsP c : Nat)) ∧ Below W.heap.size W w') := fun W => fields_any c dx dc W
  obtain ⟨w1, hw1⟩ : ∃ w1, w1 = w.alloc (.cells (clA c (.slice dx c.data.length dc)) 34) := ⟨_, rfl⟩
  have HS : Mb w1 w.heap.size c dx dc := by rw [hw1]; exact ⟨heap_alloc_new w _, hr.below (al_below w _)⟩
  have BB : Below w.heap.size w w1 := by rw [hw1]; exact al_below w _
  have HS0 : Hid (Mb w1.drew w.heap.size c dx dc) := HS.dr
  have BB0 : Hid (Below w.heap.size w w1.drew) := below_dr BB
  have HW1 := hide hw1
  clear hb1 hlt hr hw1 HS BB
  go_enter Tryz.func47, Tryz.ntmps47
  go_upto_region 1 with fail
  rw [← uh HW1]
  go_cut [23] (fun u wx => u = .bool b1 ∧ Hid (Mb wx w.heap.size c dx dc) ∧ Hid (Below w.heap.size w wx))
  case first =>
    cases hz : (c.kind.toNat : Int) == 0 with
    | true =>
      go_wp2_with fail
      refine wp_region_held_drew (S := (fun w' => Mb w' (w.heap.size) c dx dc)) (by kernel_rfl) (uh HS0) (fun hHeld => ?_)
      refine tk 0 rfl (v := ?v301) (.inl ⟨by rfl, ?hy301⟩) ?rest301
      case hy301 => intro w hSw; obtain ⟨c0, c1, c2, c3, c4, c5, c6, c7, c8, c9, c10, c11⟩ := Mb.cl hSw; go_simp; try with_reducible rfl
      try simp only [pS]
      refine tk 1 rfl (v := ?v302) (.inl ⟨by rfl, ?hy302⟩) ?rest302
      case hy302 => intro w hSw; obtain ⟨c0, c1, c2, c3, c4, c5, c6, c7, c8, c9, c10, c11⟩ := Mb.cl hSw; go_simp; try with_reducible rfl
      try simp only [pS]
      refine tk 2 rfl (v := ?v303) (.inl ⟨by rfl, ?hy303⟩) ?rest303
      case hy303 => intro w hSw; obtain ⟨c0, c1, c2, c3, c4, c5, c6, c7, c8, c9, c10, c11⟩ := Mb.cl hSw; go_simp; try with_reducible rfl
      try simp only [pS]
      refine tk 3 rfl (v := ?v304) (.inl ⟨by rfl, ?hy304⟩) ?rest304
      case hy304 => intro w hSw; obtain ⟨c0, c1, c2, c3, c4, c5, c6, c7, c8, c9, c10, c11⟩ := Mb.cl hSw; go_simp; try with_reducible rfl
      try simp only [pS]
      refine tk 4 rfl (v := undef) (.inr ⟨by rfl, rfl⟩) ?_
      try simp only [pS]
      refine tk 5 rfl (v := undef) (.inr ⟨by rfl, rfl⟩) ?_
      try simp only [pS]
      refine tk 6 rfl (v := undef) (.inr ⟨by rfl, rfl⟩) ?_
      try simp only [pS]
      refine tk 7 rfl (v := undef) (.inr ⟨by rfl, rfl⟩) ?_
      try simp only [pS]
      refine tk 8 rfl (v := ?v309) (.inl ⟨by rfl, ?hy309⟩) ?rest309
      case hy309 => intro w hSw; obtain ⟨c0, c1, c2, c3, c4, c5, c6, c7, c8, c9, c10, c11⟩ := Mb.cl hSw; go_simp; try with_reducible rfl
      try simp only [pS]
      refine tk 9 rfl (v := ?v310) (.inl ⟨by rfl, ?hy310⟩) ?rest310
      case hy310 => intro w hSw; obtain ⟨c0, c1, c2, c3, c4, c5, c6, c7, c8, c9, c10, c11⟩ := Mb.cl hSw; go_simp; try with_reducible rfl
      try simp only [pS]
      refine tk 10 rfl (v := undef) (.inr ⟨by rfl, rfl⟩) ?_
      try simp only [pS]
      refine tk 11 rfl (v := undef) (.inr ⟨by rfl, rfl⟩) ?_
      try simp only [pS]
      refine tk 12 rfl (v := undef) (.inr ⟨by rfl, rfl⟩) ?_
      try simp only [pS]
      refine tk 13 rfl (v := undef) (.inr ⟨by rfl, rfl⟩) ?_
      try simp only [pS]
      refine tk 14 rfl (v := undef) (.inr ⟨by rfl, rfl⟩) ?_
      try simp only [pS]
      refine tk 15 rfl (v := undef) (.inr ⟨by rfl, rfl⟩) ?_
      try simp only [pS]
      refine tk 16 rfl (v := undef) (.inr ⟨by rfl, rfl⟩) ?_
      try simp only [pS]
      refine tk 17 rfl (v := undef) (.inr ⟨by rfl, rfl⟩) ?_
      try simp only [pS]
      refine tk 18 rfl (v := undef) (.inr ⟨by rfl, rfl⟩) ?_
      try simp only [pS]
      refine tk 19 rfl (v := ?v320) (.inl ⟨by rfl, ?hy320⟩) ?rest320
      case hy320 => intro w hSw; obtain ⟨c0, c1, c2, c3, c4, c5, c6, c7, c8, c9, c10, c11⟩ := Mb.cl hSw; go_simp; try with_reducible rfl
      try simp only [pS]
      refine wpAnyH_done (by kernel_rfl) ?_ _
      go_wp2_with fail
      go_meet
      exact ⟨by rw [uh HB1, hz]; rfl, uh HS0, uh BB0⟩
    | false =>
      by_cases hk13 : (c.kind.toNat : Int) < 13
      · have hd : decide (13 ≤ (c.kind.toNat : Int)) = false := decide_eq_false (by omega)
        have hn := not64 (fieldsP c) (fields_lt c) (rowOf c.kind).1 (row_lt c.kind)
        go_wp2_with fail
        refine wp_region_held_drew (S := (fun w' => Mb w' (w.heap.size) c dx dc)) (by kernel_rfl) (uh HS0) (fun hHeld => ?_)
        refine tk 0 rfl (v := ?v321) (.inl ⟨by rfl, ?hy321⟩) ?rest321
        case hy321 => intro w hSw; obtain ⟨c0, c1, c2, c3, c4, c5, c6, c7, c8, c9, c10, c11⟩ := Mb.cl hSw; obtain ⟨r0, r1, r2⟩ := Mb.tab hSw hk13; go_simp; try with_reducible rfl
        try simp only [pS]
        refine tk 1 rfl (v := ?v322) (.inl ⟨by rfl, ?hy322⟩) ?rest322
        case hy322 => intro w hSw; obtain ⟨c0, c1, c2, c3, c4, c5, c6, c7, c8, c9, c10, c11⟩ := Mb.cl hSw; obtain ⟨r0, r1, r2⟩ := Mb.tab hSw hk13; go_simp; try with_reducible rfl
        try simp only [pS]
        refine tk 2 rfl (v := ?v323) (.inl ⟨by rfl, ?hy323⟩) ?rest323
        case hy323 => intro w hSw; obtain ⟨c0, c1, c2, c3, c4, c5, c6, c7, c8, c9, c10, c11⟩ := Mb.cl hSw; obtain ⟨r0, r1, r2⟩ := Mb.tab hSw hk13; go_simp; try with_reducible rfl
        try simp only [pS]
        refine tk 3 rfl (v := ?v324) (.inl ⟨by rfl, ?hy324⟩) ?rest324
        case hy324 => intro w hSw; obtain ⟨c0, c1, c2, c3, c4, c5, c6, c7, c8, c9, c10, c11⟩ := Mb.cl hSw; obtain ⟨r0, r1, r2⟩ := Mb.tab hSw hk13; go_simp; try with_reducible rfl
        try simp only [pS]
        refine tk 4 rfl (v := ?v325) (.inl ⟨by rfl, ?hy325⟩) ?rest325
        case hy325 => intro w hSw; obtain ⟨c0, c1, c2, c3, c4, c5, c6, c7, c8, c9, c10, c11⟩ := Mb.cl hSw; obtain ⟨r0, r1, r2⟩ := Mb.tab hSw hk13; go_simp; try with_reducible rfl
        try simp only [pS]
        refine tk 5 rfl (v := ?v326) (.inl ⟨by rfl, ?hy326⟩) ?rest326
        case hy326 => intro w hSw; obtain ⟨c0, c1, c2, c3, c4, c5, c6, c7, c8, c9, c10, c11⟩ := Mb.cl hSw; obtain ⟨r0, r1, r2⟩ := Mb.tab hSw hk13; go_simp; try with_reducible rfl
        try simp only [pS]
        refine tk 6 rfl (v := ?v327) (.inl ⟨by rfl, ?hy327⟩) ?rest327
        case hy327 => intro w hSw; obtain ⟨c0, c1, c2, c3, c4, c5, c6, c7, c8, c9, c10, c11⟩ := Mb.cl hSw; obtain ⟨r0, r1, r2⟩ := Mb.tab hSw hk13; go_simp; try with_reducible rfl
        try simp only [pS]
        refine tk 7 rfl (v := ?v328) (.inl ⟨by rfl, ?hy328⟩) ?rest328
        case hy328 => intro w hSw; obtain ⟨c0, c1, c2, c3, c4, c5, c6, c7, c8, c9, c10, c11⟩ := Mb.cl hSw; obtain ⟨r0, r1, r2⟩ := Mb.tab hSw hk13; go_simp; try with_reducible rfl
        try simp only [pS]
        refine tk 8 rfl (v := ?v329) (.inl ⟨by rfl, ?hy329⟩) ?rest329
        case hy329 => intro w hSw; obtain ⟨c0, c1, c2, c3, c4, c5, c6, c7, c8, c9, c10, c11⟩ := Mb.cl hSw; obtain ⟨r0, r1, r2⟩ := Mb.tab hSw hk13; go_simp; try with_reducible rfl
        try simp only [pS]
        refine tk 9 rfl (v := ?v330) (.inl ⟨by rfl, ?hy330⟩) ?rest330
        case hy330 => intro w hSw; obtain ⟨c0, c1, c2, c3, c4, c5, c6, c7, c8, c9, c10, c11⟩ := Mb.cl hSw; obtain ⟨r0, r1, r2⟩ := Mb.tab hSw hk13; go_simp; try with_reducible rfl
        try simp only [pS]
        refine tk 10 rfl (v := ?v331) (.inl ⟨by rfl, ?hy331⟩) ?rest331
        case hy331 => intro w hSw; obtain ⟨c0, c1, c2, c3, c4, c5, c6, c7, c8, c9, c10, c11⟩ := Mb.cl hSw; obtain ⟨r0, r1, r2⟩ := Mb.tab hSw hk13; go_simp; try with_reducible rfl
        try simp only [pS]
        refine tk 12 rfl (v := ?v332) (.inl ⟨by rfl, ?hy332⟩) ?rest332
        case hy332 => intro w hSw; obtain ⟨c0, c1, c2, c3, c4, c5, c6, c7, c8, c9, c10, c11⟩ := Mb.cl hSw; obtain ⟨r0, r1, r2⟩ := Mb.tab hSw hk13; go_simp; try with_reducible rfl
        try simp only [pS]
        refine tk 13 rfl (v := ?v333) (.inl ⟨by rfl, ?hy333⟩) ?rest333
        case hy333 => intro w hSw; obtain ⟨c0, c1, c2, c3, c4, c5, c6, c7, c8, c9, c10, c11⟩ := Mb.cl hSw; obtain ⟨r0, r1, r2⟩ := Mb.tab hSw hk13; go_simp; try with_reducible rfl
        try simp only [pS]
        refine tk 14 rfl (v := ?v334) (.inl ⟨by rfl, ?hy334⟩) ?rest334
        case hy334 => intro w hSw; obtain ⟨c0, c1, c2, c3, c4, c5, c6, c7, c8, c9, c10, c11⟩ := Mb.cl hSw; obtain ⟨r0, r1, r2⟩ := Mb.tab hSw hk13; go_simp; try with_reducible rfl
        try simp only [pS]
        refine tk 15 rfl (v := ?v335) (.inl ⟨by rfl, ?hy335⟩) ?rest335
        case hy335 => intro w hSw; obtain ⟨c0, c1, c2, c3, c4, c5, c6, c7, c8, c9, c10, c11⟩ := Mb.cl hSw; obtain ⟨r0, r1, r2⟩ := Mb.tab hSw hk13; go_simp; try with_reducible rfl
        try simp only [pS]
        refine tk 16 rfl (v := ?v336) (.inl ⟨by rfl, ?hy336⟩) ?rest336
        case hy336 => intro w hSw; obtain ⟨c0, c1, c2, c3, c4, c5, c6, c7, c8, c9, c10, c11⟩ := Mb.cl hSw; obtain ⟨r0, r1, r2⟩ := Mb.tab hSw hk13; go_simp; try with_reducible rfl
        try simp only [pS]
        refine wpAnyH_ready (rs := [11]) (by kernel_rfl) (by simp) ?_
        refine rc rfl fun K hK => ?_
        go_simp
        refine (uh HFL _).mono ?_; rintro e w1' ⟨rfl, hb1⟩; have HS1 := hide ((uh HS0).below hb1); have BB1 := hide ((uh BB0).trans (hb1.mono (uh BB0).size)); clear hb1
        go_wp2_with fail
        refine hK.out _ _ (by first | exact (uh HS1) | assumption | (dsimp only; assumption)) (fun hHeld2 => ?_)
        clear hK K
        try simp only [pS]
        refine tk 17 rfl (v := ?v337) (.inl ⟨by rfl, ?hy337⟩) ?rest337
        case hy337 => intro w hSw; obtain ⟨c0, c1, c2, c3, c4, c5, c6, c7, c8, c9, c10, c11⟩ := Mb.cl hSw; obtain ⟨r0, r1, r2⟩ := Mb.tab hSw hk13; go_simp; try with_reducible rfl
        try simp only [pS]
        refine tk 18 rfl (v := ?v338) (.inl ⟨by rfl, ?hy338⟩) ?rest338
        case hy338 => intro w hSw; obtain ⟨c0, c1, c2, c3, c4, c5, c6, c7, c8, c9, c10, c11⟩ := Mb.cl hSw; obtain ⟨r0, r1, r2⟩ := Mb.tab hSw hk13; go_simp; try with_reducible rfl
        try simp only [pS]
        refine tk 19 rfl (v := ?v339) (.inl ⟨by rfl, ?hy339⟩) ?rest339
        case hy339 => intro w hSw; obtain ⟨c0, c1, c2, c3, c4, c5, c6, c7, c8, c9, c10, c11⟩ := Mb.cl hSw; obtain ⟨r0, r1, r2⟩ := Mb.tab hSw hk13; go_simp; try with_reducible rfl
        try simp only [pS]
        refine wpAnyH_done (by kernel_rfl) ?_ _
        go_wp2_with fail
        go_meet
        exact ⟨by rw [uh HB1, hz, hd]; rfl, uh HS1, uh BB1⟩
      · have hd : decide (13 ≤ (c.kind.toNat : Int)) = true := decide_eq_true (by omega)
        go_wp2_with fail
        refine wp_region_held_drew (S := (fun w' => Mb w' (w.heap.size) c dx dc)) (by kernel_rfl) (uh HS0) (fun hHeld => ?_)
        refine tk 0 rfl (v := ?v340) (.inl ⟨by rfl, ?hy340⟩) ?rest340
        case hy340 => intro w hSw; obtain ⟨c0, c1, c2, c3, c4, c5, c6, c7, c8, c9, c10, c11⟩ := Mb.cl hSw; go_simp; try with_reducible rfl
        try simp only [pS]
        refine tk 1 rfl (v := ?v341) (.inl ⟨by rfl, ?hy341⟩) ?rest341
        case hy341 => intro w hSw; obtain ⟨c0, c1, c2, c3, c4, c5, c6, c7, c8, c9, c10, c11⟩ := Mb.cl hSw; go_simp; try with_reducible rfl
        try simp only [pS]
        refine tk 2 rfl (v := ?v342) (.inl ⟨by rfl, ?hy342⟩) ?rest342
        case hy342 => intro w hSw; obtain ⟨c0, c1, c2, c3, c4, c5, c6, c7, c8, c9, c10, c11⟩ := Mb.cl hSw; go_simp; try with_reducible rfl
        try simp only [pS]
        refine tk 3 rfl (v := ?v343) (.inl ⟨by rfl, ?hy343⟩) ?rest343
        case hy343 => intro w hSw; obtain ⟨c0, c1, c2, c3, c4, c5, c6, c7, c8, c9, c10, c11⟩ := Mb.cl hSw; go_simp; try with_reducible rfl
        try simp only [pS]
        refine tk 4 rfl (v := ?v344) (.inl ⟨by rfl, ?hy344⟩) ?rest344
        case hy344 => intro w hSw; obtain ⟨c0, c1, c2, c3, c4, c5, c6, c7, c8, c9, c10, c11⟩ := Mb.cl hSw; go_simp; try with_reducible rfl
        try simp only [pS]
        refine tk 5 rfl (v := ?v345) (.inl ⟨by rfl, ?hy345⟩) ?rest345
        case hy345 => intro w hSw; obtain ⟨c0, c1, c2, c3, c4, c5, c6, c7, c8, c9, c10, c11⟩ := Mb.cl hSw; go_simp; try with_reducible rfl
        try simp only [pS]
        refine tk 6 rfl (v := ?v346) (.inl ⟨by rfl, ?hy346⟩) ?rest346
        case hy346 => intro w hSw; obtain ⟨c0, c1, c2, c3, c4, c5, c6, c7, c8, c9, c10, c11⟩ := Mb.cl hSw; go_simp; try with_reducible rfl
        try simp only [pS]
        refine tk 7 rfl (v := ?v347) (.inl ⟨by rfl, ?hy347⟩) ?rest347
        case hy347 => intro w hSw; obtain ⟨c0, c1, c2, c3, c4, c5, c6, c7, c8, c9, c10, c11⟩ := Mb.cl hSw; go_simp; try with_reducible rfl
        try simp only [pS]
        refine tk 8 rfl (v := ?v348) (.inl ⟨by rfl, ?hy348⟩) ?rest348
        case hy348 => intro w hSw; obtain ⟨c0, c1, c2, c3, c4, c5, c6, c7, c8, c9, c10, c11⟩ := Mb.cl hSw; go_simp; try with_reducible rfl
        try simp only [pS]
        refine tk 9 rfl (v := ?v349) (.inl ⟨by rfl, ?hy349⟩) ?rest349
        case hy349 => intro w hSw; obtain ⟨c0, c1, c2, c3, c4, c5, c6, c7, c8, c9, c10, c11⟩ := Mb.cl hSw; go_simp; try with_reducible rfl
        try simp only [pS]
        refine tk 10 rfl (v := undef) (.inr ⟨by rfl, rfl⟩) ?_
        try simp only [pS]
        refine tk 11 rfl (v := undef) (.inr ⟨by rfl, rfl⟩) ?_
        try simp only [pS]
        refine tk 12 rfl (v := undef) (.inr ⟨by rfl, rfl⟩) ?_
        try simp only [pS]
        refine tk 13 rfl (v := undef) (.inr ⟨by rfl, rfl⟩) ?_
        try simp only [pS]
        refine tk 14 rfl (v := undef) (.inr ⟨by rfl, rfl⟩) ?_
        try simp only [pS]
        refine tk 15 rfl (v := undef) (.inr ⟨by rfl, rfl⟩) ?_
        try simp only [pS]
        refine tk 16 rfl (v := undef) (.inr ⟨by rfl, rfl⟩) ?_
        try simp only [pS]
        refine tk 17 rfl (v := undef) (.inr ⟨by rfl, rfl⟩) ?_
        try simp only [pS]
        refine tk 18 rfl (v := undef) (.inr ⟨by rfl, rfl⟩) ?_
        try simp only [pS]
        refine tk 19 rfl (v := ?v359) (.inl ⟨by rfl, ?hy359⟩) ?rest359
        case hy359 => intro w hSw; obtain ⟨c0, c1, c2, c3, c4, c5, c6, c7, c8, c9, c10, c11⟩ := Mb.cl hSw; go_simp; try with_reducible rfl
        try simp only [pS]
        refine wpAnyH_done (by kernel_rfl) ?_ _
        go_wp2_with fail
        go_meet
        exact ⟨by rw [uh HB1, hz, hd]; rfl, uh HS0, uh BB0⟩
  case rest =>
  obtain ⟨rfl, HS, BB⟩ := hcut
  clear HS0 BB0 HB1 HFL
  cases b1 with
  | true =>
    go_wp2_with fail
    go_ret
    exact ⟨rfl, uh BB⟩
  | false =>
  obtain ⟨c0, c1, c2, c3, c4, c5, c6, c7, c8, c9, c10, c11⟩ := Mb.cl (uh HS)
  by_cases h12 : c.kind = 12
  · have e12 : ((c.kind.toNat : Int) == 12) = true := by rw [h12]; rfl
    obtain rfl : lt = 0 := by rw [uh HLT, if_pos h12]
    clear HLT hwr HW1 HS c1 c2 c7 c8 c9 c10 c11 h12
    by_cases g0 : 0 ≤ c.mode
    case neg =>
      go_wp2_with fail
      go_ret
      exact ⟨by simp [*] <;> (intros; omega), uh BB⟩
    by_cases g1 : c.mode ≤ 511
    case neg =>
      go_wp2_with fail
      go_ret
      exact ⟨by simp [*] <;> (intros; omega), uh BB⟩
    cases g2 : ownP c.user with
    | false =>
      go_wp2_with fail
      refine (isOwner_any _ _).mono ?_
      rintro e w5 ⟨rfl, hw⟩
      subst hw
      go_wp2_with fail
      go_ret
      exact ⟨by simp [*] <;> (intros; omega), uh BB⟩
    | true =>
    cases g3 : ownP c.group with
    | false =>
      go_wp2_with fail
      refine (isOwner_any _ _).mono ?_
      rintro e w5 ⟨rfl, hw⟩
      subst hw
      go_wp2_with fail
      refine (isOwner_any _ _).mono ?_
      rintro e w6 ⟨rfl, hw⟩
      subst hw
      go_wp2_with fail
      go_ret
      exact ⟨by simp [*] <;> (intros; omega), uh BB⟩
    | true =>
    by_cases g4 : 0 ≤ c.time
    case neg =>
      go_wp2_with fail
      refine (isOwner_any _ _).mono ?_
      rintro e w5 ⟨rfl, hw⟩
      subst hw
      go_wp2_with fail
      refine (isOwner_any _ _).mono ?_
      rintro e w6 ⟨rfl, hw⟩
      subst hw
      go_wp2_with fail
      go_ret
      exact ⟨by simp [*] <;> (intros; omega), uh BB⟩
    by_cases g5 : c.time ≤ 1099511627775
    case neg =>
      go_wp2_with fail
      refine (isOwner_any _ _).mono ?_
      rintro e w5 ⟨rfl, hw⟩
      subst hw
      go_wp2_with fail
      refine (isOwner_any _ _).mono ?_
      rintro e w6 ⟨rfl, hw⟩
      subst hw
      go_wp2_with fail
      go_ret
      exact ⟨by simp [*] <;> (intros; omega), uh BB⟩
    go_wp2_with fail
    refine (isOwner_any _ _).mono ?_
    rintro e w5 ⟨rfl, hw⟩
    subst hw
    go_wp2_with fail
    refine (isOwner_any _ _).mono ?_
    rintro e w6 ⟨rfl, hw⟩
    subst hw
    go_wp2_with fail
    go_ret
    exact ⟨by simp [*] <;> (intros; omega), uh BB⟩
  · have e12 : ((c.kind.toNat : Int) == 12) = false := by rw [show ((c.kind.toNat : Int) == 12) = decide (c.kind = 12) from kd_eq c.kind 12]; exact decide_eq_false h12
    obtain rfl : lt = -1 := by rw [uh HLT, if_neg h12]
    clear HLT hwr HW1 HS c1 c2 c7 c8 c9 c10 c11 h12
    by_cases g0 : 0 ≤ c.mode
    case neg =>
      go_wp2_with fail
      go_ret
      exact ⟨by simp [*] <;> (intros; omega), uh BB⟩
    by_cases g1 : c.mode ≤ 511
    case neg =>
      go_wp2_with fail
      go_ret
      exact ⟨by simp [*] <;> (intros; omega), uh BB⟩
    cases g2 : ownP c.user with
    | false =>
      go_wp2_with fail
      refine (isOwner_any _ _).mono ?_
      rintro e w5 ⟨rfl, hw⟩
      subst hw
      go_wp2_with fail
      go_ret
      exact ⟨by simp [*] <;> (intros; omega), uh BB⟩
    | true =>
    cases g3 : ownP c.group with
    | false =>
      go_wp2_with fail
      refine (isOwner_any _ _).mono ?_
      rintro e w5 ⟨rfl, hw⟩
      subst hw
      go_wp2_with fail
      refine (isOwner_any _ _).mono ?_
      rintro e w6 ⟨rfl, hw⟩
      subst hw
      go_wp2_with fail
      go_ret
      exact ⟨by simp [*] <;> (intros; omega), uh BB⟩
    | true =>
    by_cases g4 : -1 ≤ c.time
    case neg =>
      go_wp2_with fail
      refine (isOwner_any _ _).mono ?_
      rintro e w5 ⟨rfl, hw⟩
      subst hw
      go_wp2_with fail
      refine (isOwner_any _ _).mono ?_
      rintro e w6 ⟨rfl, hw⟩
      subst hw
      go_wp2_with fail
      go_ret
      exact ⟨by simp [*] <;> (intros; omega), uh BB⟩
    by_cases g5 : c.time ≤ 1099511627775
    case neg =>
      go_wp2_with fail
      refine (isOwner_any _ _).mono ?_
      rintro e w5 ⟨rfl, hw⟩
      subst hw
      go_wp2_with fail
      refine (isOwner_any _ _).mono ?_
      rintro e w6 ⟨rfl, hw⟩
      subst hw
      go_wp2_with fail
      go_ret
      exact ⟨by simp [*] <;> (intros; omega), uh BB⟩
    go_wp2_with fail
    refine (isOwner_any _ _).mono ?_
    rintro e w5 ⟨rfl, hw⟩
    subst hw
    go_wp2_with fail
    refine (isOwner_any _ _).mono ?_
    rintro e w6 ⟨rfl, hw⟩
    subst hw
    go_wp2_with fail
    go_ret
    exact ⟨by simp [*] <;> (intros; omega), uh BB⟩
end Go.Proofs.YtidhceebafmlkaaGreatDoor.Ca

namespace Go.Proofs.YtidhceebafmlkaaGreatDoor.Ca
open Go.RowKit Cu Tr
theorem Df.relist {w w' : World} {B D g n c : Nat} {now : Int} {l : List Nv} (h : Df w B D now (.slice (some ⟨g, 0, none⟩) n c) l) (d : Nat) (hd : d < l.length) {v' : Value} {es : List En} (hR : RowE B v' es w')
    (hG : w.grownBy w' (l.getD d zNv).2.2.ownBlock) (hat : v'.ownBlock = (l.getD d zNv).2.2.ownBlock ∨ ∃ k, v'.ownBlock = some k ∧ w.heap.size ≤ k) :
    Df (w'.setCell ⟨g, d * 10 + 8, none⟩ v') B D now (.slice (some ⟨g, 0, none⟩) n c) (l.set d ({ (l.getD d zNv).1 with list := es }, (l.getD d zNv).2.1, v')) := by
  obtain ⟨cur, hcur⟩ := own_type h.row (k := g) rfl
  have hdd := h.hd d hd
  have kb : ∀ (k : Nat) (c : Array Value) (e : TypeId) (f : Nat × Nat), w.heap[k]? = some (.cells c e f) → some k ≠ (l.getD d zNv).2.2.ownBlock → w'.heap[k]? = w.heap[k]? := fun k c e f hk hne => hG.block k (Array.getElem?_eq_some_iff.1 hk).1 hne
  have ty : ∀ (k : Nat) (c : Array Value) (e : TypeId) (f : Nat × Nat), w.heap[k]? = some (.cells c e f) → e ≠ 116 → some k ≠ (l.getD d zNv).2.2.ownBlock := fun k c e f hk he hq => by
    obtain ⟨cur', hc'⟩ := own_type hdd.2 hq.symm
    rw [hk] at hc'
    injection hc' with hc'
    injection hc' with _ hc' _
    exact he hc'
  have kg := kb g _ _ _ hcur (ty g _ _ _ hcur (by decide))
  have kD := kb D _ _ _ h.box (ty D _ _ _ h.box (by decide))
  have hdata : ∀ (x : Nv), Hd B w x → Row B x.2.1 x.1.data w' := fun x hx => own_keep hx.1 fun k hk => by
    obtain ⟨cu, hcu⟩ := own_type hx.1 hk
    exact kb k _ _ _ hcu (ty k _ _ _ hcu (by decide))
  have k2 : ∀ (k : Nat), k ≠ g → (w'.setCell ⟨g, d * 10 + 8, none⟩ v').heap[k]? = w'.heap[k]? := fun k hk => heap_setCell_other _ ⟨g, _, none⟩ k _ hk
  have hcur' : w'.heap[g]? = some (.cells cur 82 (0, 0)) := kg.trans hcur
  have up : ∀ (x : Nv), Hd B w' x → Hd B (w'.setCell ⟨g, d * 10 + 8, none⟩ v') x := fun x hx =>
    hx.nodes fun k cur' hc => k2 k (by rcases hc with hc | hc <;> exact obj_ne hc hcur' (by decide))
  have e := h.lenN
  have hrow : w'.ownsRow B 82 10 (.slice (some ⟨g, 0, none⟩) n c) n (cellsOf l) := own_keep h.rown fun k hk => by
    injection hk with hk
    rw [← hk]; exact kg
  have hx' : Hd B w' ({ (l.getD d zNv).1 with list := es }, (l.getD d zNv).2.1, v') := ⟨hdata (l.getD d zNv) hdd, hR⟩
  have apx : ∀ k (hk : k < l.length), k ≠ d → Apt l[k] ({ (l.getD d zNv).1 with list := es }, (l.getD d zNv).2.1, v') := fun k hk hne => by
    have q := h.apt d hd k hk hne
    rw [getD_nv hk] at q
    refine ⟨q.1, fun j hj hj' => ?_⟩
    rcases hat with hat | ⟨j', hat, hge⟩
    · exact q.2 j hj (hat.symm.trans hj')
    · rw [show (({ (l.getD d zNv).1 with list := es }, (l.getD d zNv).2.1, v') : Nv).2.2.ownBlock = v'.ownBlock from rfl, hat] at hj'
      injection hj' with hj'
      have := ((h.own _ (List.getElem_mem hk)).2.lt j hj).2
      omega
  refine ⟨(k2 D (obj_ne h.box hcur (by decide))).trans (kD.trans h.box), h.hD, ?_, ?_, ?_⟩
  · show World.ownsRow _ _ _ _ _ _ _
    have hc := cellsOf_set l d 8 ({ (l.getD d zNv).1 with list := es }, (l.getD d zNv).2.1, v') v' hd (by omega) rfl
    rw [List.length_set, hc]
    have q := (hrow.stored (d * 10 + 8) v').1
    rw [e] at q ⊢
    exact q
  · intro x hx
    obtain ⟨k, hk, rfl⟩ := List.mem_iff_getElem.1 hx
    rw [List.length_set] at hk
    rw [List.getElem_set]
    split
    · exact up _ hx'
    · rename_i hne
      have hxk := h.own _ (List.getElem_mem hk)
      refine up _ ⟨hdata _ hxk, own_keep hxk.2 fun j hj => ?_⟩
      obtain ⟨cu, hcu⟩ := own_type hxk.2 hj
      refine kb j _ _ _ hcu fun hq => ?_
      have q := h.apt d hd k hk (fun e => hne e.symm)
      rw [getD_nv hk] at q
      exact q.2 j hj hq.symm
  · exact pairwise_set h.ap d _ fun k hk hne => ⟨apx k hk hne, (apx k hk hne).symm⟩
theorem grown_below {w w' : World} {B : Nat} {o : Option Nat} (h : w.grownBy w' o) (ho : ∀ k, o = some k → B ≤ k) (hB : B ≤ w.heap.size) : Below B w w' :=
  ⟨h.os, h.tape, h.output, h.size, fun k hk => h.block k (by omega) (fun e => by have := ho k e.symm; omega)⟩
theorem Df.rebox {w : World} {B D : Nat} {now : Int} {v : Value} {l : List Nv} (h : Df w B D now v l) (v2 : Value) (l2 : List Nv) (hr : RowN B v2 l2 w) (ho : ∀ x ∈ l2, Hd B w x) (ha : l2.Pairwise Apt) :
    Df (w.setCell ⟨D, 0, none⟩ v2) B D now v2 l2 := by
  have k2 : ∀ (k : Nat), k ≠ D → (w.setCell ⟨D, 0, none⟩ v2).heap[k]? = w.heap[k]? := fun k hk => heap_setCell_other _ ⟨D, _, none⟩ k _ hk
  refine ⟨?_, h.hD, ?_, fun x hx => ?_, ha⟩
  · rw [heap_setCell_same _ _ _ _ _ _ h.box]; rfl
  · exact own_keep hr fun k hk => by
      obtain ⟨cu, hcu⟩ := own_type hr hk
      exact k2 k (fun e => by rw [e, h.box] at hcu; injection hcu with hcu; injection hcu with _ hcu _; exact absurd hcu (by decide))
  · have hx := ho x hx
    exact ⟨own_keep hx.1 fun k hk => by
        obtain ⟨cu, hcu⟩ := own_type hx.1 hk
        exact k2 k (fun e => by rw [e, h.box] at hcu; injection hcu with hcu; injection hcu with _ hcu _; exact absurd hcu (by decide)),
      own_keep hx.2 fun k hk => by
        obtain ⟨cu, hcu⟩ := own_type hx.2 hk
        exact k2 k (fun e => by rw [e, h.box] at hcu; injection hcu with hcu; injection hcu with _ hcu _; exact absurd hcu (by decide))⟩
end Go.Proofs.YtidhceebafmlkaaGreatDoor.Ca
