import Derived.Test.YtidhceebafmlkaaGreatDoorCaAct3
namespace Go.Proofs.YtidhceebafmlkaaGreatDoor.Ca
open Go.RowKit Cu Tr Pm Pt
set_option maxRecDepth 100000 in
set_option maxHeartbeats 400000 in
theorem isOwner_any (n : Int) (w : World) : Calls Tryz.prog 118 #[.int .i64 n] w fun e w' => e = .returned (.bool (ownP n)) ∧ w' = w := by
  unfold ownP
  by_cases h1 : (-1 : Int) ≤ n
  · rw [decide_eq_true h1, Bool.true_and]
    go_enter Tryz.func118, Tryz.ntmps118
    go_wp2
    go_ret
    exact ⟨rfl, rfl⟩
  · rw [decide_eq_false h1, Bool.false_and]
    go_enter Tryz.func118, Tryz.ntmps118
    go_wp2
    go_ret
    exact ⟨rfl, rfl⟩
set_option maxRecDepth 100000 in
set_option maxHeartbeats 400000 in
theorem whenI_any (b : Bool) (k : Int) (w : World) : Calls Tryz.prog 181 #[.bool b, .int .i64 k] w fun e w' => e = .returned (.int .i64 (wh b k)) ∧ w' = w := by
  unfold wh
  cases b with
  | true =>
    go_enter Tryz.func181, Tryz.ntmps181
    go_wp2
    go_ret
    exact ⟨rfl, rfl⟩
  | false =>
    go_enter Tryz.func181, Tryz.ntmps181
    go_wp2
    go_ret
    exact ⟨rfl, rfl⟩
def orB (b1 b2 b3 b4 b5 b6 : Bool) : Int := bits .or .i64 (bits .or .i64 (bits .or .i64 (bits .or .i64 (bits .or .i64 (wh b1 1) (wh b2 2)) (wh b3 4)) (wh b4 8)) (wh b5 16)) (wh b6 32)
theorem orB_eq : ∀ b1 b2 b3 b4 b5 b6 : Bool, orB b1 b2 b3 b4 b5 b6 = ((bitIf b1 1 + bitIf b2 2 + bitIf b3 4 + bitIf b4 8 + bitIf b5 16 + bitIf b6 32 : Nat) : Int) := by decide
theorem size_ne (s : ByteArray) : decide (s.size ≠ 0) = !s.toList.isEmpty := by
  have q : s.toList = [] ↔ s.size = 0 := by
    rw [ByteArray.toList_eq]
    exact ⟨fun h => by have := congrArg List.length h; exact this, fun h => none_of h⟩
  by_cases h : s.size = 0
  · rw [q.2 h]; simp [h]
  · cases e : s.toList with
    | nil => exact absurd (q.1 e) h
    | cons a l => simp [h]
theorem int_ne (k : Int) : decide (k ≠ 0) = (k != 0) := by rw [Bool.eq_iff_iff]; simp
theorem fields_is (c : Cl) : fieldsP c = bitIf (!c.path.toList.isEmpty) 1 + bitIf (!c.other.toList.isEmpty) 2 + bitIf (c.mode != 0) 4 + bitIf ((c.user != 0) || (c.group != 0)) 8 + bitIf (c.time != 0) 16 + bitIf (decide (0 < c.data.length)) 32 := by
  unfold fieldsP
  rw [size_ne, size_ne, int_ne, int_ne, int_ne, int_ne, show decide (c.data.length ≠ 0) = decide (0 < c.data.length) from decide_eq_decide.2 (by omega)]
theorem cl_cells {w : World} {B : Nat} {c : Cl} {dv : Value} {T : TypeId} (h : w.heap[B]? = some (.cells (clA c dv) T (0, 0))) :
    w.cell? ⟨B, 0, none⟩ = some (.int .u8 (c.kind.toNat : Int)) ∧ w.cell? ⟨B, 1, none⟩ = some (.string c.path) ∧ w.cell? ⟨B, 2, none⟩ = some (.string c.other) ∧ w.cell? ⟨B, 3, none⟩ = some (.int .i64 c.mode) ∧ w.cell? ⟨B, 4, none⟩ = some (.int .i64 c.user) ∧ w.cell? ⟨B, 5, none⟩ = some (.int .i64 c.group) ∧ w.cell? ⟨B, 6, none⟩ = some (.int .i64 c.time) ∧ w.cell? ⟨B, 7, none⟩ = some dv ∧ w.cell? ⟨B, 8, none⟩ = some (.int .i64 c.env.user) ∧ w.cell? ⟨B, 9, none⟩ = some (.int .i64 c.env.group) ∧ w.cell? ⟨B, 10, none⟩ = some (.int .i64 c.env.mask) ∧ w.cell? ⟨B, 11, none⟩ = some (.int .i64 c.env.dir) := by
  have c : ∀ j, w.cell? ⟨B, j, none⟩ = (clA c dv)[j]? := fun j => cell_of_row _ _ _ _ _ _ h
  exact ⟨c 0, c 1, c 2, c 3, c 4, c 5, c 6, c 7, c 8, c 9, c 10, c 11⟩
set_option maxRecDepth 100000 in
set_option maxHeartbeats 1000000 in
theorem fields_any (c : Cl) (dx : Option Addr) (dc : Nat) (w : World) : Calls Tryz.prog 117 #[.agg (clA c (.slice dx c.data.length dc))] w fun e w' => e = .returned (.int .i64 (fieldsP c : Nat)) ∧ Below w.heap.size w w' := by
  have HS0 : Hid ((fun w' => w'.heap[w.heap.size]? = some (.cells (clA c (.slice dx c.data.length dc)) 34 (0, 0))) (w.alloc (.cells (clA c (.slice dx c.data.length dc)) 34)).drew) := heap_alloc_new w _
  have HB0 : Hid (Below w.heap.size w (w.alloc (.cells (clA c (.slice dx c.data.length dc)) 34)).drew) := below_dr (al_below _ _)
  obtain ⟨b4, h4⟩ : ∃ b, (c.user != 0) = b := ⟨_, rfl⟩
  go_enter Tryz.func117, Tryz.ntmps117
  cases b4 with
  | true =>
    go_wp2_with fail
    refine wp_region_held_drew (S := (fun w' => w'.heap[w.heap.size]? = some (.cells (clA c (.slice dx c.data.length dc)) 34 (0, 0)))) (by kernel_rfl) (uh HS0) (fun hHeld => ?_)
    refine tk 0 rfl (v := ?v1) (.inl ⟨by rfl, ?hy1⟩) ?rest1
    case hy1 => intro w hSw; obtain ⟨g0, g1, g2, g3, g4, g5, g6, g7, g8, g9, g10, g11⟩ := cl_cells hSw; go_simp; try with_reducible rfl
    try simp only [pS]
    refine tk 1 rfl (v := ?v2) (.inl ⟨by rfl, ?hy2⟩) ?rest2
    case hy2 => intro w hSw; obtain ⟨g0, g1, g2, g3, g4, g5, g6, g7, g8, g9, g10, g11⟩ := cl_cells hSw; go_simp; try with_reducible rfl
    try simp only [pS]
    refine tk 2 rfl (v := ?v3) (.inl ⟨by rfl, ?hy3⟩) ?rest3
    case hy3 => intro w hSw; obtain ⟨g0, g1, g2, g3, g4, g5, g6, g7, g8, g9, g10, g11⟩ := cl_cells hSw; go_simp; try with_reducible rfl
    try simp only [pS]
    refine tk 4 rfl (v := ?v4) (.inl ⟨by rfl, ?hy4⟩) ?rest4
    case hy4 => intro w hSw; obtain ⟨g0, g1, g2, g3, g4, g5, g6, g7, g8, g9, g10, g11⟩ := cl_cells hSw; go_simp; try with_reducible rfl
    try simp only [pS]
    refine tk 5 rfl (v := ?v5) (.inl ⟨by rfl, ?hy5⟩) ?rest5
    case hy5 => intro w hSw; obtain ⟨g0, g1, g2, g3, g4, g5, g6, g7, g8, g9, g10, g11⟩ := cl_cells hSw; go_simp; try with_reducible rfl
    try simp only [pS]
    refine tk 6 rfl (v := ?v6) (.inl ⟨by rfl, ?hy6⟩) ?rest6
    case hy6 => intro w hSw; obtain ⟨g0, g1, g2, g3, g4, g5, g6, g7, g8, g9, g10, g11⟩ := cl_cells hSw; go_simp; try with_reducible rfl
    try simp only [pS]
    refine tk 9 rfl (v := ?v7) (.inl ⟨by rfl, ?hy7⟩) ?rest7
    case hy7 => intro w hSw; obtain ⟨g0, g1, g2, g3, g4, g5, g6, g7, g8, g9, g10, g11⟩ := cl_cells hSw; go_simp; try with_reducible rfl
    try simp only [pS]
    refine tk 10 rfl (v := ?v8) (.inl ⟨by rfl, ?hy8⟩) ?rest8
    case hy8 => intro w hSw; obtain ⟨g0, g1, g2, g3, g4, g5, g6, g7, g8, g9, g10, g11⟩ := cl_cells hSw; go_simp; try with_reducible rfl
    try simp only [pS]
    refine tk 11 rfl (v := ?v9) (.inl ⟨by rfl, ?hy9⟩) ?rest9
    case hy9 => intro w hSw; obtain ⟨g0, g1, g2, g3, g4, g5, g6, g7, g8, g9, g10, g11⟩ := cl_cells hSw; go_simp; try with_reducible rfl
    try simp only [pS]
    refine tk 14 rfl (v := ?v10) (.inl ⟨by rfl, ?hy10⟩) ?rest10
    case hy10 => intro w hSw; obtain ⟨g0, g1, g2, g3, g4, g5, g6, g7, g8, g9, g10, g11⟩ := cl_cells hSw; go_simp; try with_reducible rfl
    try simp only [pS]
    refine tk 15 rfl (v := ?v11) (.inl ⟨by rfl, ?hy11⟩) ?rest11
    case hy11 => intro w hSw; obtain ⟨g0, g1, g2, g3, g4, g5, g6, g7, g8, g9, g10, g11⟩ := cl_cells hSw; go_simp; try with_reducible rfl
    try simp only [pS]
    refine tk 16 rfl (v := ?v12) (.inl ⟨by rfl, ?hy12⟩) ?rest12
    case hy12 => intro w hSw; obtain ⟨g0, g1, g2, g3, g4, g5, g6, g7, g8, g9, g10, g11⟩ := cl_cells hSw; go_simp; try with_reducible rfl
    try simp only [pS]
    refine tk 24 rfl (v := ?v13) (.inl ⟨by rfl, ?hy13⟩) ?rest13
    case hy13 => intro w hSw; obtain ⟨g0, g1, g2, g3, g4, g5, g6, g7, g8, g9, g10, g11⟩ := cl_cells hSw; go_simp; try with_reducible rfl
    try simp only [pS]
    refine tk 25 rfl (v := ?v14) (.inl ⟨by rfl, ?hy14⟩) ?rest14
    case hy14 => intro w hSw; obtain ⟨g0, g1, g2, g3, g4, g5, g6, g7, g8, g9, g10, g11⟩ := cl_cells hSw; go_simp; try with_reducible rfl
    try simp only [pS]
    refine tk 26 rfl (v := ?v15) (.inl ⟨by rfl, ?hy15⟩) ?rest15
    case hy15 => intro w hSw; obtain ⟨g0, g1, g2, g3, g4, g5, g6, g7, g8, g9, g10, g11⟩ := cl_cells hSw; go_simp; try with_reducible rfl
    try simp only [pS]
    refine tk 29 rfl (v := ?v16) (.inl ⟨by rfl, ?hy16⟩) ?rest16
    case hy16 => intro w hSw; obtain ⟨g0, g1, g2, g3, g4, g5, g6, g7, g8, g9, g10, g11⟩ := cl_cells hSw; go_simp; try with_reducible rfl
    try simp only [pS]
    refine tk 30 rfl (v := ?v17) (.inl ⟨by rfl, ?hy17⟩) ?rest17
    case hy17 => intro w hSw; obtain ⟨g0, g1, g2, g3, g4, g5, g6, g7, g8, g9, g10, g11⟩ := cl_cells hSw; go_simp; try with_reducible rfl
    try simp only [pS]
    refine tk 31 rfl (v := ?v18) (.inl ⟨by rfl, ?hy18⟩) ?rest18
    case hy18 => intro w hSw; obtain ⟨g0, g1, g2, g3, g4, g5, g6, g7, g8, g9, g10, g11⟩ := cl_cells hSw; go_simp; try with_reducible rfl
    try simp only [pS]
    refine tk 32 rfl (v := ?v19) (.inl ⟨by rfl, ?hy19⟩) ?rest19
    case hy19 => intro w hSw; obtain ⟨g0, g1, g2, g3, g4, g5, g6, g7, g8, g9, g10, g11⟩ := cl_cells hSw; go_simp; try with_reducible rfl
    try simp only [pS]
    refine wpAnyH_ready (rs := [3]) (by kernel_rfl) (by simp) ?_
    refine rc rfl fun K hK => ?_
    go_simp
    refine (whenI_any _ _ _).mono ?_; rintro e ww3 ⟨rfl, hw3⟩; subst hw3
    go_wp2_with fail
    refine hK.out _ _ (by first | exact (uh HS0) | assumption | (dsimp only; assumption)) (fun hHeld2 => ?_)
    clear hK K
    try simp only [pS]
    refine wpAnyH_ready (rs := [7]) (by kernel_rfl) (by simp) ?_
    refine rc rfl fun K hK => ?_
    go_simp
    refine (whenI_any _ _ _).mono ?_; rintro e ww7 ⟨rfl, hw7⟩; subst hw7
    go_wp2_with fail
    refine hK.out _ _ (by first | exact (uh HS0) | assumption | (dsimp only; assumption)) (fun hHeld2 => ?_)
    clear hK K
    try simp only [pS]
    refine tk 8 rfl (v := ?v20) (.inl ⟨by rfl, ?hy20⟩) ?rest20
    case hy20 => intro w hSw; obtain ⟨g0, g1, g2, g3, g4, g5, g6, g7, g8, g9, g10, g11⟩ := cl_cells hSw; go_simp; try with_reducible rfl
    try simp only [pS]
    refine wpAnyH_ready (rs := [12]) (by kernel_rfl) (by simp) ?_
    refine rc rfl fun K hK => ?_
    go_simp
    refine (whenI_any _ _ _).mono ?_; rintro e ww12 ⟨rfl, hw12⟩; subst hw12
    go_wp2_with fail
    refine hK.out _ _ (by first | exact (uh HS0) | assumption | (dsimp only; assumption)) (fun hHeld2 => ?_)
    clear hK K
    try simp only [pS]
    refine tk 13 rfl (v := ?v21) (.inl ⟨by rfl, ?hy21⟩) ?rest21
    case hy21 => intro w hSw; obtain ⟨g0, g1, g2, g3, g4, g5, g6, g7, g8, g9, g10, g11⟩ := cl_cells hSw; go_simp; try with_reducible rfl
    try simp only [pS]
    refine tk 17 rfl (v := ?v22) (.inl ⟨by rfl, ?hy22⟩) ?rest22
    case hy22 => intro w hSw; obtain ⟨g0, g1, g2, g3, g4, g5, g6, g7, g8, g9, g10, g11⟩ := cl_cells hSw; go_simp; try with_reducible rfl
    try simp only [pS]
    refine tk 18 rfl (v := undef) (.inr ⟨by rfl, rfl⟩) ?_
    try simp only [pS]
    refine tk 19 rfl (v := undef) (.inr ⟨by rfl, rfl⟩) ?_
    try simp only [pS]
    refine tk 20 rfl (v := undef) (.inr ⟨by rfl, rfl⟩) ?_
    try simp only [pS]
    refine tk 21 rfl (v := ?v26) (.inl ⟨by rfl, ?hy26⟩) ?rest26
    case hy26 => intro w hSw; obtain ⟨g0, g1, g2, g3, g4, g5, g6, g7, g8, g9, g10, g11⟩ := cl_cells hSw; go_simp; try with_reducible rfl
    try simp only [pS]
    refine wpAnyH_ready (rs := [22]) (by kernel_rfl) (by simp) ?_
    refine rc rfl fun K hK => ?_
    go_simp
    refine (whenI_any _ _ _).mono ?_; rintro e ww22 ⟨rfl, hw22⟩; subst hw22
    go_wp2_with fail
    refine hK.out _ _ (by first | exact (uh HS0) | assumption | (dsimp only; assumption)) (fun hHeld2 => ?_)
    clear hK K
    try simp only [pS]
    refine tk 23 rfl (v := ?v27) (.inl ⟨by rfl, ?hy27⟩) ?rest27
    case hy27 => intro w hSw; obtain ⟨g0, g1, g2, g3, g4, g5, g6, g7, g8, g9, g10, g11⟩ := cl_cells hSw; go_simp; try with_reducible rfl
    try simp only [pS]
    refine wpAnyH_ready (rs := [27]) (by kernel_rfl) (by simp) ?_
    refine rc rfl fun K hK => ?_
    go_simp
    refine (whenI_any _ _ _).mono ?_; rintro e ww27 ⟨rfl, hw27⟩; subst hw27
    go_wp2_with fail
    refine hK.out _ _ (by first | exact (uh HS0) | assumption | (dsimp only; assumption)) (fun hHeld2 => ?_)
    clear hK K
    try simp only [pS]
    refine tk 28 rfl (v := ?v28) (.inl ⟨by rfl, ?hy28⟩) ?rest28
    case hy28 => intro w hSw; obtain ⟨g0, g1, g2, g3, g4, g5, g6, g7, g8, g9, g10, g11⟩ := cl_cells hSw; go_simp; try with_reducible rfl
    try simp only [pS]
    refine wpAnyH_ready (rs := [33]) (by kernel_rfl) (by simp) ?_
    refine rc rfl fun K hK => ?_
    go_simp
    refine (whenI_any _ _ _).mono ?_; rintro e ww33 ⟨rfl, hw33⟩; subst hw33
    go_wp2_with fail
    refine hK.out _ _ (by first | exact (uh HS0) | assumption | (dsimp only; assumption)) (fun hHeld2 => ?_)
    clear hK K
    try simp only [pS]
    refine tk 34 rfl (v := ?v29) (.inl ⟨by rfl, ?hy29⟩) ?rest29
    case hy29 => intro w hSw; obtain ⟨g0, g1, g2, g3, g4, g5, g6, g7, g8, g9, g10, g11⟩ := cl_cells hSw; go_simp; try with_reducible rfl
    try simp only [pS]
    refine tk 35 rfl (v := ?v30) (.inl ⟨by rfl, ?hy30⟩) ?rest30
    case hy30 => intro w hSw; obtain ⟨g0, g1, g2, g3, g4, g5, g6, g7, g8, g9, g10, g11⟩ := cl_cells hSw; go_simp; try with_reducible rfl
    try simp only [pS]
    refine wpAnyH_done (by kernel_rfl) ?_ _
    go_wp2_with fail
    go_ret
    exact ⟨(show Ending.returned (.int .i64 (orB (!c.path.toList.isEmpty) (!c.other.toList.isEmpty) (c.mode != 0) true (c.time != 0) (decide (0 < c.data.length)))) = _ by rw [orB_eq, fields_is, h4, Bool.true_or]), uh HB0⟩
  | false =>
    go_wp2_with fail
    refine wp_region_held_drew (S := (fun w' => w'.heap[w.heap.size]? = some (.cells (clA c (.slice dx c.data.length dc)) 34 (0, 0)))) (by kernel_rfl) (uh HS0) (fun hHeld => ?_)
    refine tk 0 rfl (v := ?v31) (.inl ⟨by rfl, ?hy31⟩) ?rest31
    case hy31 => intro w hSw; obtain ⟨g0, g1, g2, g3, g4, g5, g6, g7, g8, g9, g10, g11⟩ := cl_cells hSw; go_simp; try with_reducible rfl
    try simp only [pS]
    refine tk 1 rfl (v := ?v32) (.inl ⟨by rfl, ?hy32⟩) ?rest32
    case hy32 => intro w hSw; obtain ⟨g0, g1, g2, g3, g4, g5, g6, g7, g8, g9, g10, g11⟩ := cl_cells hSw; go_simp; try with_reducible rfl
    try simp only [pS]
    refine tk 2 rfl (v := ?v33) (.inl ⟨by rfl, ?hy33⟩) ?rest33
    case hy33 => intro w hSw; obtain ⟨g0, g1, g2, g3, g4, g5, g6, g7, g8, g9, g10, g11⟩ := cl_cells hSw; go_simp; try with_reducible rfl
    try simp only [pS]
    refine tk 4 rfl (v := ?v34) (.inl ⟨by rfl, ?hy34⟩) ?rest34
    case hy34 => intro w hSw; obtain ⟨g0, g1, g2, g3, g4, g5, g6, g7, g8, g9, g10, g11⟩ := cl_cells hSw; go_simp; try with_reducible rfl
    try simp only [pS]
    refine tk 5 rfl (v := ?v35) (.inl ⟨by rfl, ?hy35⟩) ?rest35
    case hy35 => intro w hSw; obtain ⟨g0, g1, g2, g3, g4, g5, g6, g7, g8, g9, g10, g11⟩ := cl_cells hSw; go_simp; try with_reducible rfl
    try simp only [pS]
    refine tk 6 rfl (v := ?v36) (.inl ⟨by rfl, ?hy36⟩) ?rest36
    case hy36 => intro w hSw; obtain ⟨g0, g1, g2, g3, g4, g5, g6, g7, g8, g9, g10, g11⟩ := cl_cells hSw; go_simp; try with_reducible rfl
    try simp only [pS]
    refine tk 9 rfl (v := ?v37) (.inl ⟨by rfl, ?hy37⟩) ?rest37
    case hy37 => intro w hSw; obtain ⟨g0, g1, g2, g3, g4, g5, g6, g7, g8, g9, g10, g11⟩ := cl_cells hSw; go_simp; try with_reducible rfl
    try simp only [pS]
    refine tk 10 rfl (v := ?v38) (.inl ⟨by rfl, ?hy38⟩) ?rest38
    case hy38 => intro w hSw; obtain ⟨g0, g1, g2, g3, g4, g5, g6, g7, g8, g9, g10, g11⟩ := cl_cells hSw; go_simp; try with_reducible rfl
    try simp only [pS]
    refine tk 11 rfl (v := ?v39) (.inl ⟨by rfl, ?hy39⟩) ?rest39
    case hy39 => intro w hSw; obtain ⟨g0, g1, g2, g3, g4, g5, g6, g7, g8, g9, g10, g11⟩ := cl_cells hSw; go_simp; try with_reducible rfl
    try simp only [pS]
    refine tk 14 rfl (v := ?v40) (.inl ⟨by rfl, ?hy40⟩) ?rest40
    case hy40 => intro w hSw; obtain ⟨g0, g1, g2, g3, g4, g5, g6, g7, g8, g9, g10, g11⟩ := cl_cells hSw; go_simp; try with_reducible rfl
    try simp only [pS]
    refine tk 15 rfl (v := ?v41) (.inl ⟨by rfl, ?hy41⟩) ?rest41
    case hy41 => intro w hSw; obtain ⟨g0, g1, g2, g3, g4, g5, g6, g7, g8, g9, g10, g11⟩ := cl_cells hSw; go_simp; try with_reducible rfl
    try simp only [pS]
    refine tk 16 rfl (v := ?v42) (.inl ⟨by rfl, ?hy42⟩) ?rest42
    case hy42 => intro w hSw; obtain ⟨g0, g1, g2, g3, g4, g5, g6, g7, g8, g9, g10, g11⟩ := cl_cells hSw; go_simp; try with_reducible rfl
    try simp only [pS]
    refine tk 24 rfl (v := ?v43) (.inl ⟨by rfl, ?hy43⟩) ?rest43
    case hy43 => intro w hSw; obtain ⟨g0, g1, g2, g3, g4, g5, g6, g7, g8, g9, g10, g11⟩ := cl_cells hSw; go_simp; try with_reducible rfl
    try simp only [pS]
    refine tk 25 rfl (v := ?v44) (.inl ⟨by rfl, ?hy44⟩) ?rest44
    case hy44 => intro w hSw; obtain ⟨g0, g1, g2, g3, g4, g5, g6, g7, g8, g9, g10, g11⟩ := cl_cells hSw; go_simp; try with_reducible rfl
    try simp only [pS]
    refine tk 26 rfl (v := ?v45) (.inl ⟨by rfl, ?hy45⟩) ?rest45
    case hy45 => intro w hSw; obtain ⟨g0, g1, g2, g3, g4, g5, g6, g7, g8, g9, g10, g11⟩ := cl_cells hSw; go_simp; try with_reducible rfl
    try simp only [pS]
    refine tk 29 rfl (v := ?v46) (.inl ⟨by rfl, ?hy46⟩) ?rest46
    case hy46 => intro w hSw; obtain ⟨g0, g1, g2, g3, g4, g5, g6, g7, g8, g9, g10, g11⟩ := cl_cells hSw; go_simp; try with_reducible rfl
    try simp only [pS]
    refine tk 30 rfl (v := ?v47) (.inl ⟨by rfl, ?hy47⟩) ?rest47
    case hy47 => intro w hSw; obtain ⟨g0, g1, g2, g3, g4, g5, g6, g7, g8, g9, g10, g11⟩ := cl_cells hSw; go_simp; try with_reducible rfl
    try simp only [pS]
    refine tk 31 rfl (v := ?v48) (.inl ⟨by rfl, ?hy48⟩) ?rest48
    case hy48 => intro w hSw; obtain ⟨g0, g1, g2, g3, g4, g5, g6, g7, g8, g9, g10, g11⟩ := cl_cells hSw; go_simp; try with_reducible rfl
    try simp only [pS]
    refine tk 32 rfl (v := ?v49) (.inl ⟨by rfl, ?hy49⟩) ?rest49
    case hy49 => intro w hSw; obtain ⟨g0, g1, g2, g3, g4, g5, g6, g7, g8, g9, g10, g11⟩ := cl_cells hSw; go_simp; try with_reducible rfl
    try simp only [pS]
    refine wpAnyH_ready (rs := [3]) (by kernel_rfl) (by simp) ?_
    refine rc rfl fun K hK => ?_
    go_simp
    refine (whenI_any _ _ _).mono ?_; rintro e ww3 ⟨rfl, hw3⟩; subst hw3
    go_wp2_with fail
    refine hK.out _ _ (by first | exact (uh HS0) | assumption | (dsimp only; assumption)) (fun hHeld2 => ?_)
    clear hK K
    try simp only [pS]
    refine wpAnyH_ready (rs := [7]) (by kernel_rfl) (by simp) ?_
    refine rc rfl fun K hK => ?_
    go_simp
    refine (whenI_any _ _ _).mono ?_; rintro e ww7 ⟨rfl, hw7⟩; subst hw7
    go_wp2_with fail
    refine hK.out _ _ (by first | exact (uh HS0) | assumption | (dsimp only; assumption)) (fun hHeld2 => ?_)
    clear hK K
    try simp only [pS]
    refine tk 8 rfl (v := ?v50) (.inl ⟨by rfl, ?hy50⟩) ?rest50
    case hy50 => intro w hSw; obtain ⟨g0, g1, g2, g3, g4, g5, g6, g7, g8, g9, g10, g11⟩ := cl_cells hSw; go_simp; try with_reducible rfl
    try simp only [pS]
    refine wpAnyH_ready (rs := [12]) (by kernel_rfl) (by simp) ?_
    refine rc rfl fun K hK => ?_
    go_simp
    refine (whenI_any _ _ _).mono ?_; rintro e ww12 ⟨rfl, hw12⟩; subst hw12
    go_wp2_with fail
    refine hK.out _ _ (by first | exact (uh HS0) | assumption | (dsimp only; assumption)) (fun hHeld2 => ?_)
    clear hK K
    try simp only [pS]
    refine tk 13 rfl (v := ?v51) (.inl ⟨by rfl, ?hy51⟩) ?rest51
    case hy51 => intro w hSw; obtain ⟨g0, g1, g2, g3, g4, g5, g6, g7, g8, g9, g10, g11⟩ := cl_cells hSw; go_simp; try with_reducible rfl
    try simp only [pS]
    refine tk 17 rfl (v := ?v52) (.inl ⟨by rfl, ?hy52⟩) ?rest52
    case hy52 => intro w hSw; obtain ⟨g0, g1, g2, g3, g4, g5, g6, g7, g8, g9, g10, g11⟩ := cl_cells hSw; go_simp; try with_reducible rfl
    try simp only [pS]
    refine tk 18 rfl (v := ?v53) (.inl ⟨by rfl, ?hy53⟩) ?rest53
    case hy53 => intro w hSw; obtain ⟨g0, g1, g2, g3, g4, g5, g6, g7, g8, g9, g10, g11⟩ := cl_cells hSw; go_simp; try with_reducible rfl
    try simp only [pS]
    refine tk 19 rfl (v := ?v54) (.inl ⟨by rfl, ?hy54⟩) ?rest54
    case hy54 => intro w hSw; obtain ⟨g0, g1, g2, g3, g4, g5, g6, g7, g8, g9, g10, g11⟩ := cl_cells hSw; go_simp; try with_reducible rfl
    try simp only [pS]
    refine tk 20 rfl (v := ?v55) (.inl ⟨by rfl, ?hy55⟩) ?rest55
    case hy55 => intro w hSw; obtain ⟨g0, g1, g2, g3, g4, g5, g6, g7, g8, g9, g10, g11⟩ := cl_cells hSw; go_simp; try with_reducible rfl
    try simp only [pS]
    refine tk 21 rfl (v := ?v56) (.inl ⟨by rfl, ?hy56⟩) ?rest56
    case hy56 => intro w hSw; obtain ⟨g0, g1, g2, g3, g4, g5, g6, g7, g8, g9, g10, g11⟩ := cl_cells hSw; go_simp; try with_reducible rfl
    try simp only [pS]
    refine wpAnyH_ready (rs := [22]) (by kernel_rfl) (by simp) ?_
    refine rc rfl fun K hK => ?_
    go_simp
    refine (whenI_any _ _ _).mono ?_; rintro e ww22 ⟨rfl, hw22⟩; subst hw22
    go_wp2_with fail
    refine hK.out _ _ (by first | exact (uh HS0) | assumption | (dsimp only; assumption)) (fun hHeld2 => ?_)
    clear hK K
    try simp only [pS]
    refine tk 23 rfl (v := ?v57) (.inl ⟨by rfl, ?hy57⟩) ?rest57
    case hy57 => intro w hSw; obtain ⟨g0, g1, g2, g3, g4, g5, g6, g7, g8, g9, g10, g11⟩ := cl_cells hSw; go_simp; try with_reducible rfl
    try simp only [pS]
    refine wpAnyH_ready (rs := [27]) (by kernel_rfl) (by simp) ?_
    refine rc rfl fun K hK => ?_
    go_simp
    refine (whenI_any _ _ _).mono ?_; rintro e ww27 ⟨rfl, hw27⟩; subst hw27
    go_wp2_with fail
    refine hK.out _ _ (by first | exact (uh HS0) | assumption | (dsimp only; assumption)) (fun hHeld2 => ?_)
    clear hK K
    try simp only [pS]
    refine tk 28 rfl (v := ?v58) (.inl ⟨by rfl, ?hy58⟩) ?rest58
    case hy58 => intro w hSw; obtain ⟨g0, g1, g2, g3, g4, g5, g6, g7, g8, g9, g10, g11⟩ := cl_cells hSw; go_simp; try with_reducible rfl
    try simp only [pS]
    refine wpAnyH_ready (rs := [33]) (by kernel_rfl) (by simp) ?_
    refine rc rfl fun K hK => ?_
    go_simp
    refine (whenI_any _ _ _).mono ?_; rintro e ww33 ⟨rfl, hw33⟩; subst hw33
    go_wp2_with fail
    refine hK.out _ _ (by first | exact (uh HS0) | assumption | (dsimp only; assumption)) (fun hHeld2 => ?_)
    clear hK K
    try simp only [pS]
    refine tk 34 rfl (v := ?v59) (.inl ⟨by rfl, ?hy59⟩) ?rest59
    case hy59 => intro w hSw; obtain ⟨g0, g1, g2, g3, g4, g5, g6, g7, g8, g9, g10, g11⟩ := cl_cells hSw; go_simp; try with_reducible rfl
    try simp only [pS]
    refine tk 35 rfl (v := ?v60) (.inl ⟨by rfl, ?hy60⟩) ?rest60
    case hy60 => intro w hSw; obtain ⟨g0, g1, g2, g3, g4, g5, g6, g7, g8, g9, g10, g11⟩ := cl_cells hSw; go_simp; try with_reducible rfl
    try simp only [pS]
    refine wpAnyH_done (by kernel_rfl) ?_ _
    go_wp2_with fail
    go_ret
    exact ⟨(show Ending.returned (.int .i64 (orB (!c.path.toList.isEmpty) (!c.other.toList.isEmpty) (c.mode != 0) (c.group != 0) (c.time != 0) (decide (0 < c.data.length)))) = _ by rw [orB_eq, fields_is, h4, Bool.false_or]), uh HB0⟩
end Go.Proofs.YtidhceebafmlkaaGreatDoor.Ca
