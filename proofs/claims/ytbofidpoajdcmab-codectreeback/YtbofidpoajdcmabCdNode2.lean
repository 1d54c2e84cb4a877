/- A reader of nodes: its parts target, numbers, parent. -/
import Derived.Test.YtbofidpoajdcmabCdNode
namespace Go.Proofs.Ytbofidpoajdcmab.Cd
open Go.RowKit Cu Tr

theorem not_pls {rb nb : Nat} {S : List Addr} (hs : Pls rb nb S) (hne : rb ≠ nb) : (⟨nb, 0, none⟩ : Addr) ∉ S := fun e => (hs _ e).elim (fun q => hne (by injection q with q; exact q.symm)) (fun q => q.2 rfl)
theorem targetN {ws : World} {K rb nb fb : Nat} {l : Bs} {w w1 : World} {n : Nd} {d e : Value} {x r1 : Bs} (h : Jn 0 ws K rb nb fb l n4 w) (C : C10 w nb n d e) (D : Row (nb + 1) d n.data w) (E : RowE (nb + 1) e n.list w) (F2 : Fr [⟨rb, 0, none⟩, ⟨nb, 7 + 1, none⟩] w w1) (hR : Rd w1 K rb r1) (hv : w1.cell? ⟨nb, 8, none⟩ = some (.string (ba x))) (hg : nodeP l = n5 { n with target := ba x } r1) (hbl : n.list.length ≤ 0) : Jn 0 ws K rb nb fb l n5 w1 := by
  refine h.next (n' := { n with target := ba x }) F2 (pls2 rb nb 7) hR ?_ (rowN_same D F2 (pls2 rb nb 7) h.rlt) (rowE_same E F2 (pls2 rb nb 7) h.rlt) hg hbl
  refine C.upd (fun i => i == 7) F2 (ten ?_ ?_ ?_ ?_ ?_ ?_ ?_ ?_ ?_ ?_) (fun i u hi hj hv' => ?_)
  all_goals first | (intro q; simp at q; done) | (intro _; exact ⟨by simp, rfl⟩) | skip
  obtain rfl : i = 7 := by simpa using hj
  simp at hv'
  subst hv'
  exact hv
set_option maxHeartbeats 1000000 in
set_option maxRecDepth 100000 in
theorem ntarget_any (ws : World) (K rb nb fb : Nat) (l : Bs) (w : World) (h' : Jn 0 ws K rb nb fb l n4 w) : Calls Try.prog 57 #[rp nb] w (PartN 0 ws K rb nb fb l n5) := by
  have h := h'.drew
  obtain ⟨n, r, d, e, hR, hC, hD, hE, hg, hbl⟩ := h.ex
  have hlt := hC.lt
  have hp0 : w.cell? ⟨nb, 0, none⟩ = some (rp rb) := h'.ptr
  have hN : Hid (Calls Try.prog 52 #[.pointer (some ⟨rb, 0, none⟩), .pointer (some ⟨nb, 8, none⟩)] w.drew (TInR w.drew K rb ⟨nb, 7 + 1, none⟩ (txtP r))) := hide (textInto_any K rb nb 8 n.target r w.drew hR (TgN h hC hR.lo rfl))
  unfold TInR at hN
  have HJ := hide h
  have HC := hide hC
  have HD := hide hD
  have HE := hide hE
  cases hp : txtP r with
  | none =>
    rw [hp] at hN
    have hbad : Hid (nodeP l = none) := hide (by rw [hg, n4, hp]; rfl)
    clear h h' hR hC hD hE hg
    go_enter Try.func57, Try.ntmps57
    go_wp2_with fail
    go_region_with (go_at_call 52; refine (unhide hN).mono ?_; rintro e w1 ⟨hF, rfl⟩; have F2 := hide hF; clear hF)
    go_wp2_with fail
    go_ret
    exact .inr ⟨rfl, (unhide HJ).bad (unhide F2) (pls2 rb nb 7) (unhide hbad)⟩
  | some p =>
    obtain ⟨x, r1⟩ := p
    rw [hp] at hN
    have hg2 : Hid (nodeP l = n5 { n with target := ba x } r1) := hide (by rw [hg, n4, hp]; rfl)
    clear h h' hR hC hD hE hg
    go_enter Try.func57, Try.ntmps57
    go_wp2_with fail
    go_region_with (go_at_call 52; refine (unhide hN).mono ?_; rintro e w1 ⟨hF, rfl, hR1, hv⟩; have J9 : Hid (Jn 0 ws K rb nb fb l n5 w1) := targetN (unhide HJ) (unhide HC) (unhide HD) (unhide HE) hF hR1 hv (unhide hg2) hbl; clear hF hR1 hv)
    go_wp2_with fail
    go_ret
    exact .inl ⟨rfl, unhide J9⟩
theorem pls_nnums (rb nb : Nat) : Pls rb nb [(⟨rb, 0, none⟩ : Addr), (⟨nb, 2, none⟩ : Addr), (⟨nb, 3, none⟩ : Addr), (⟨nb, 4, none⟩ : Addr), (⟨nb, 5, none⟩ : Addr), (⟨nb, 6, none⟩ : Addr)] := by
  intro p hp
  simp only [List.mem_cons, List.not_mem_nil, or_false] at hp
  rcases hp with rfl | rfl | rfl | rfl | rfl | rfl
  · exact .inl rfl
  all_goals exact .inr ⟨rfl, by simp⟩
theorem nnumsN {ws : World} {K rb nb fb : Nat} {l : Bs} {w w1 : World} {n : Nd} {d e : Value} {zs : List Int} {r1 : Bs} (h : Jn 0 ws K rb nb fb l n2 w) (C : C10 w nb n d e) (D : Row (nb + 1) d n.data w) (E : RowE (nb + 1) e n.list w) (F2 : Fr [(⟨rb, 0, none⟩ : Addr), (⟨nb, 2, none⟩ : Addr), (⟨nb, 3, none⟩ : Addr), (⟨nb, 4, none⟩ : Addr), (⟨nb, 5, none⟩ : Addr), (⟨nb, 6, none⟩ : Addr)] w w1) (hR : Rd w1 K rb r1) (hl : zs.length = 5) (hv : ∀ (j : Nat) (t : Addr) (z : Int), [(⟨nb, 2, none⟩ : Addr), (⟨nb, 3, none⟩ : Addr), (⟨nb, 4, none⟩ : Addr), (⟨nb, 5, none⟩ : Addr), (⟨nb, 6, none⟩ : Addr)][j]? = some t → zs[j]? = some z → w1.cell? t = some (.int .i64 z)) (hg : nodeP l = n3 { n with mode := zs.getD 0 0, user := zs.getD 1 0, group := zs.getD 2 0, links := zs.getD 3 0, time := zs.getD 4 0 } r1) (hbl : n.list.length ≤ 0) : Jn 0 ws K rb nb fb l n3 w1 := by
  have z := fun (j : Nat) (t : Addr) (ht : [(⟨nb, 2, none⟩ : Addr), (⟨nb, 3, none⟩ : Addr), (⟨nb, 4, none⟩ : Addr), (⟨nb, 5, none⟩ : Addr), (⟨nb, 6, none⟩ : Addr)][j]? = some t) (hj : j < 5) => hv j t (zs.getD j 0) ht (by rw [List.getD, List.getElem?_eq_getElem (by omega)]; rfl)
  refine h.next (n' := { n with mode := zs.getD 0 0, user := zs.getD 1 0, group := zs.getD 2 0, links := zs.getD 3 0, time := zs.getD 4 0 }) F2 (pls_nnums rb nb) hR ?_ (rowN_same D F2 (pls_nnums rb nb) h.rlt) (rowE_same E F2 (pls_nnums rb nb) h.rlt) hg hbl
  refine C.upd (fun i => i == 1 || i == 2 || i == 3 || i == 4 || i == 5) F2 (ten ?_ ?_ ?_ ?_ ?_ ?_ ?_ ?_ ?_ ?_) (fun i u hi hj hv' => ?_)
  all_goals first | (intro q; simp at q; done) | (intro _; exact ⟨by simp, rfl⟩) | skip
  have hij : i = 1 ∨ i = 2 ∨ i = 3 ∨ i = 4 ∨ i = 5 := by simpa [or_assoc] using hj
  rcases hij with rfl | rfl | rfl | rfl | rfl
  · simp at hv'; subst hv'; exact z 0 _ rfl (by omega)
  · simp at hv'; subst hv'; exact z 1 _ rfl (by omega)
  · simp at hv'; subst hv'; exact z 2 _ rfl (by omega)
  · simp at hv'; subst hv'; exact z 3 _ rfl (by omega)
  · simp at hv'; subst hv'; exact z 4 _ rfl (by omega)
set_option maxHeartbeats 2000000 in
set_option maxRecDepth 100000 in
theorem nnums_any (ws : World) (K rb nb fb : Nat) (l : Bs) (w : World) (h' : Jn 0 ws K rb nb fb l n2 w) : Calls Try.prog 55 #[rp nb] w (PartN 0 ws K rb nb fb l n3) := by
  have h := h'.drew
  obtain ⟨n, r, d, e, hR, hC, hD, hE, hg, hbl⟩ := h.ex
  have hlt := hC.lt
  have hne := h.lts.2.2
  have hp0 : w.cell? ⟨nb, 0, none⟩ = some (rp rb) := h'.ptr
  obtain ⟨O, hO⟩ : ∃ O : Obj, O = .cells #[.pointer (some ⟨nb, 2, none⟩), .pointer (some ⟨nb, 3, none⟩), .pointer (some ⟨nb, 4, none⟩), .pointer (some ⟨nb, 5, none⟩), .pointer (some ⟨nb, 6, none⟩)] 93 := ⟨_, rfl⟩
  have F0 : Fr (S := [(⟨rb, 0, none⟩ : Addr), (⟨nb, 2, none⟩ : Addr), (⟨nb, 3, none⟩ : Addr), (⟨nb, 4, none⟩ : Addr), (⟨nb, 5, none⟩ : Addr), (⟨nb, 6, none⟩ : Addr)]) w.drew (w.drew.alloc O) := Fr.of_below (below_new w.drew O)
  have hTs : Tgs (w.drew.alloc O) K rb w.drew.heap.size [(⟨nb, 2, none⟩ : Addr), (⟨nb, 3, none⟩ : Addr), (⟨nb, 4, none⟩ : Addr), (⟨nb, 5, none⟩ : Addr), (⟨nb, 6, none⟩ : Addr)] := by
    refine ⟨by simp, ?_, fun t ht => by
      have e : t.block = nb := by
        simp only [List.mem_cons, List.not_mem_nil, or_false] at ht
        rcases ht with rfl | rfl | rfl | rfl | rfl <;> rfl
      rw [e]
      exact Nat.ne_of_lt hlt, by simp⟩
    intro t ht
    simp only [List.mem_cons, List.not_mem_nil, or_false] at ht
    rcases ht with rfl | rfl | rfl | rfl | rfl
    · exact ⟨_, (TgN h hC hR.lo (i := 1) rfl).fr F0.nilS (by simp)⟩
    · exact ⟨_, (TgN h hC hR.lo (i := 2) rfl).fr F0.nilS (by simp)⟩
    · exact ⟨_, (TgN h hC hR.lo (i := 3) rfl).fr F0.nilS (by simp)⟩
    · exact ⟨_, (TgN h hC hR.lo (i := 4) rfl).fr F0.nilS (by simp)⟩
    · exact ⟨_, (TgN h hC hR.lo (i := 5) rfl).fr F0.nilS (by simp)⟩
  have hN0 := numbersInto_any K rb w.drew.heap.size 5 [(⟨nb, 2, none⟩ : Addr), (⟨nb, 3, none⟩ : Addr), (⟨nb, 4, none⟩ : Addr), (⟨nb, 5, none⟩ : Addr), (⟨nb, 6, none⟩ : Addr)] r (w.drew.alloc O) (hR.fr F0.nilS (by simp) (by simp)) hTs (by rw [hO]; exact heap_alloc_new w.drew _) (by have := h.lts; omega) rfl (by omega)
  have hN : Hid (Calls Try.prog 46 #[rp rb, .slice (some ⟨w.heap.size, 0, none⟩) 5 5] (w.alloc O).drew (NInR (w.drew.alloc O) K rb [(⟨nb, 2, none⟩ : Addr), (⟨nb, 3, none⟩ : Addr), (⟨nb, 4, none⟩ : Addr), (⟨nb, 5, none⟩ : Addr), (⟨nb, 6, none⟩ : Addr)] (intsP 5 r))) := hN0
  clear hN0
  unfold NInR at hN
  have HF0 := hide F0
  have HJ := hide h
  have HC := hide hC
  have HD := hide hD
  have HE := hide hE
  cases hp : intsP 5 r with
  | none =>
    rw [hp] at hN
    have hbad : Hid (nodeP l = none) := hide (by rw [hg, n2, hp]; rfl)
    clear h h' hR hC hD hE hg F0 hTs
    subst hO
    go_enter Try.func55, Try.ntmps55
    go_wp2_with fail
    refine wp_region_held_drew (S := (fun w' => w'.cell? ⟨nb, 0, none⟩ = some (rp rb))) (by kernel_rfl) hp0 (fun hHeld => ?_)
    refine wpAnyH_take (i := 0) (oi := _) (v := ?v1) rfl (by kernel_rfl) (by kernel_rfl) (by kernel_rfl) (fun _ _ _ h => h) (Or.inl ⟨by rfl, ?hy1⟩) (by assumption) ?rest1
    case hy1 => (intro w hSw; have hSc := hSw; go_simp; try with_reducible rfl)
    try simp only [Act.put, List.getElem_toArray, List.getElem_cons_zero, List.setIfInBounds_toArray, List.set_cons_zero, List.set_cons_succ]
    refine wpAnyH_take (i := 1) (oi := _) (v := ?v2) rfl (by kernel_rfl) (by kernel_rfl) (by kernel_rfl) (fun _ _ _ h => h) (Or.inl ⟨by rfl, ?hy2⟩) (by assumption) ?rest2
    case hy2 => (intro w hSw; have hSc := hSw; go_simp; try with_reducible rfl)
    try simp only [Act.put, List.getElem_toArray, List.getElem_cons_zero, List.getElem_cons_succ, List.setIfInBounds_toArray, List.set_cons_zero, List.set_cons_succ]
    refine wpAnyH_take (i := 2) (oi := _) (v := ?v3) rfl (by kernel_rfl) (by kernel_rfl) (by kernel_rfl) (fun _ _ _ h => h) (Or.inl ⟨by rfl, ?hy3⟩) (by assumption) ?rest3
    case hy3 => (intro w hSw; have hSc := hSw; go_simp; try with_reducible rfl)
    try simp only [Act.put, List.getElem_toArray, List.getElem_cons_zero, List.getElem_cons_succ, List.setIfInBounds_toArray, List.set_cons_zero, List.set_cons_succ]
    refine wpAnyH_take (i := 3) (oi := _) (v := ?v4) rfl (by kernel_rfl) (by kernel_rfl) (by kernel_rfl) (fun _ _ _ h => h) (Or.inl ⟨by rfl, ?hy4⟩) (by assumption) ?rest4
    case hy4 => (intro w hSw; have hSc := hSw; go_simp; try with_reducible rfl)
    try simp only [Act.put, List.getElem_toArray, List.getElem_cons_zero, List.getElem_cons_succ, List.setIfInBounds_toArray, List.set_cons_zero, List.set_cons_succ]
    refine wpAnyH_take (i := 4) (oi := _) (v := ?v5) rfl (by kernel_rfl) (by kernel_rfl) (by kernel_rfl) (fun _ _ _ h => h) (Or.inl ⟨by rfl, ?hy5⟩) (by assumption) ?rest5
    case hy5 => (intro w hSw; have hSc := hSw; go_simp; try with_reducible rfl)
    try simp only [Act.put, List.getElem_toArray, List.getElem_cons_zero, List.getElem_cons_succ, List.setIfInBounds_toArray, List.set_cons_zero, List.set_cons_succ]
    refine wpAnyH_take (i := 5) (oi := _) (v := ?v6) rfl (by kernel_rfl) (by kernel_rfl) (by kernel_rfl) (fun _ _ _ h => h) (Or.inl ⟨by rfl, ?hy6⟩) (by assumption) ?rest6
    case hy6 => (intro w hSw; have hSc := hSw; go_simp; try with_reducible rfl)
    try simp only [Act.put, List.getElem_toArray, List.getElem_cons_zero, List.getElem_cons_succ, List.setIfInBounds_toArray, List.set_cons_zero, List.set_cons_succ]
    refine wpAnyH_take (i := 6) (oi := _) (v := ?v7) rfl (by kernel_rfl) (by kernel_rfl) (by kernel_rfl) (fun _ _ _ h => h) (Or.inl ⟨by rfl, ?hy7⟩) (by assumption) ?rest7
    case hy7 => (intro w hSw; have hSc := hSw; go_simp; try with_reducible rfl)
    try simp only [Act.put, List.getElem_toArray, List.getElem_cons_zero, List.getElem_cons_succ, List.setIfInBounds_toArray, List.set_cons_zero, List.set_cons_succ]
    refine wpAnyH_take (i := 7) (oi := _) (v := ?v8) rfl (by kernel_rfl) (by kernel_rfl) (by kernel_rfl) (fun _ _ _ h => h) (Or.inl ⟨by rfl, ?hy8⟩) (by assumption) ?rest8
    case hy8 => (intro w hSw; have hSc := hSw; go_simp; try with_reducible rfl)
    try simp only [Act.put, List.getElem_toArray, List.getElem_cons_zero, List.getElem_cons_succ, List.setIfInBounds_toArray, List.set_cons_zero, List.set_cons_succ]
    refine wpAnyH_take (i := 8) (oi := _) (v := ?v9) rfl (by kernel_rfl) (by kernel_rfl) (by kernel_rfl) (fun _ _ _ h => h) (Or.inl ⟨by rfl, ?hy9⟩) (by assumption) ?rest9
    case hy9 => (intro w hSw; have hSc := hSw; go_simp; try with_reducible rfl)
    try simp only [Act.put, List.getElem_toArray, List.getElem_cons_zero, List.getElem_cons_succ, List.setIfInBounds_toArray, List.set_cons_zero, List.set_cons_succ]
    refine wpAnyH_take (i := 9) (oi := _) (v := ?v10) rfl (by kernel_rfl) (by kernel_rfl) (by kernel_rfl) (fun _ _ _ h => h) (Or.inl ⟨by rfl, ?hy10⟩) (by assumption) ?rest10
    case hy10 => (intro w hSw; have hSc := hSw; go_simp; try with_reducible rfl)
    try simp only [Act.put, List.getElem_toArray, List.getElem_cons_zero, List.getElem_cons_succ, List.setIfInBounds_toArray, List.set_cons_zero, List.set_cons_succ]
    refine wpAnyH_take (i := 10) (oi := _) (v := ?v11) rfl (by kernel_rfl) (by kernel_rfl) (by kernel_rfl) (fun _ _ _ h => h) (Or.inl ⟨by rfl, ?hy11⟩) (by assumption) ?rest11
    case hy11 => (intro w hSw; have hSc := hSw; go_simp; try with_reducible rfl)
    try simp only [Act.put, List.getElem_toArray, List.getElem_cons_zero, List.getElem_cons_succ, List.setIfInBounds_toArray, List.set_cons_zero, List.set_cons_succ]
    refine wpAnyH_take (i := 11) (oi := _) (v := ?v12) rfl (by kernel_rfl) (by kernel_rfl) (by kernel_rfl) (fun _ _ _ h => h) (Or.inl ⟨by rfl, ?hy12⟩) (by assumption) ?rest12
    case hy12 => (intro w hSw; have hSc := hSw; go_simp; try with_reducible rfl)
    try simp only [Act.put, List.getElem_toArray, List.getElem_cons_zero, List.getElem_cons_succ, List.setIfInBounds_toArray, List.set_cons_zero, List.set_cons_succ]
    refine wpAnyH_take (i := 12) (oi := _) (v := ?v13) rfl (by kernel_rfl) (by kernel_rfl) (by kernel_rfl) (fun _ _ _ h => h) (Or.inl ⟨by rfl, ?hy13⟩) (by assumption) ?rest13
    case hy13 => (intro w hSw; have hSc := hSw; go_simp; try with_reducible rfl)
    try simp only [Act.put, List.getElem_toArray, List.getElem_cons_zero, List.getElem_cons_succ, List.setIfInBounds_toArray, List.set_cons_zero, List.set_cons_succ]
    refine wpAnyH_take (i := 13) (oi := _) (v := ?v14) rfl (by kernel_rfl) (by kernel_rfl) (by kernel_rfl) (fun _ _ _ h => h) (Or.inl ⟨by rfl, ?hy14⟩) (by assumption) ?rest14
    case hy14 => (intro w hSw; have hSc := hSw; go_simp; try with_reducible rfl)
    try simp only [Act.put, List.getElem_toArray, List.getElem_cons_zero, List.getElem_cons_succ, List.setIfInBounds_toArray, List.set_cons_zero, List.set_cons_succ]
    refine wpAnyH_take (i := 14) (oi := _) (v := ?v15) rfl (by kernel_rfl) (by kernel_rfl) (by kernel_rfl) (fun _ _ _ h => h) (Or.inl ⟨by rfl, ?hy15⟩) (by assumption) ?rest15
    case hy15 => (intro w hSw; have hSc := hSw; go_simp; try with_reducible rfl)
    try simp only [Act.put, List.getElem_toArray, List.getElem_cons_zero, List.getElem_cons_succ, List.setIfInBounds_toArray, List.set_cons_zero, List.set_cons_succ]
    refine wpAnyH_take (i := 15) (oi := _) (v := ?v16) rfl (by kernel_rfl) (by kernel_rfl) (by kernel_rfl) (fun _ _ _ h => h) (Or.inl ⟨by rfl, ?hy16⟩) (by assumption) ?rest16
    case hy16 => (intro w hSw; have hSc := hSw; go_simp; try with_reducible rfl)
    try simp only [Act.put, List.getElem_toArray, List.getElem_cons_zero, List.getElem_cons_succ, List.setIfInBounds_toArray, List.set_cons_zero, List.set_cons_succ]
    refine wpAnyH_take (i := 16) (oi := _) (v := ?v17) rfl (by kernel_rfl) (by kernel_rfl) (by kernel_rfl) (fun _ _ _ h => h) (Or.inl ⟨by rfl, ?hy17⟩) (by assumption) ?rest17
    case hy17 => (intro w hSw; have hSc := hSw; go_simp; try with_reducible rfl)
    try simp only [Act.put, List.getElem_toArray, List.getElem_cons_zero, List.getElem_cons_succ, List.setIfInBounds_toArray, List.set_cons_zero, List.set_cons_succ]
    refine wpAnyH_take (i := 17) (oi := _) (v := ?v18) rfl (by kernel_rfl) (by kernel_rfl) (by kernel_rfl) (fun _ _ _ h => h) (Or.inl ⟨by rfl, ?hy18⟩) (by assumption) ?rest18
    case hy18 => (intro w hSw; have hSc := hSw; go_simp; try with_reducible rfl)
    try simp only [Act.put, List.getElem_toArray, List.getElem_cons_zero, List.getElem_cons_succ, List.setIfInBounds_toArray, List.set_cons_zero, List.set_cons_succ]
    refine wpAnyH_take (i := 18) (oi := _) (v := ?v19) rfl (by kernel_rfl) (by kernel_rfl) (by kernel_rfl) (fun _ _ _ h => h) (Or.inl ⟨by rfl, ?hy19⟩) (by assumption) ?rest19
    case hy19 => (intro w hSw; have hSc := hSw; go_simp; try with_reducible rfl)
    try simp only [Act.put, List.getElem_toArray, List.getElem_cons_zero, List.getElem_cons_succ, List.setIfInBounds_toArray, List.set_cons_zero, List.set_cons_succ]
    refine wpAnyH_ready (rs := [19]) (by kernel_rfl) (by simp) ?_
    refine AllReadyH.cons (o := _) rfl (fun K hK => ?_) AllReadyH.nil
    go_simp
    skip
    go_wp2_with fail
    refine hK.out _ _ (by first | exact (((below_new w.drew _).cell (p := ⟨nb, 0, none⟩) hlt).trans hp0) | assumption | (dsimp only; assumption)) (fun hHeld2 => ?_)
    clear hK K
    try simp only [Act.put, List.getElem_toArray, List.getElem_cons_zero, List.getElem_cons_succ, List.setIfInBounds_toArray, List.set_cons_zero, List.set_cons_succ]
    refine wpAnyH_ready (rs := [20]) (by kernel_rfl) (by simp) ?_
    refine AllReadyH.cons (o := _) rfl (fun K hK => ?_) AllReadyH.nil
    go_simp
    refine (unhide hN).mono ?_; rintro e w1 ⟨hF, rfl⟩; have hS9 : w1.cell? ⟨nb, 0, none⟩ = some (rp rb) := (hF.cell ⟨nb, 0, none⟩ (Nat.lt_of_lt_of_le hlt (below_new w.drew _).size) (not_pls (pls_nnums rb nb) hne)).trans (((below_new w.drew _).cell (p := ⟨nb, 0, none⟩) hlt).trans hp0); have F2 := hide ((unhide HF0).trans hF); clear hF
    go_wp2_with fail
    refine hK.out _ _ (by first | exact hS9 | assumption | (dsimp only; assumption)) (fun hHeld2 => ?_)
    clear hK K
    try simp only [Act.put, List.getElem_toArray, List.getElem_cons_zero, List.getElem_cons_succ, List.setIfInBounds_toArray, List.set_cons_zero, List.set_cons_succ]
    refine wpAnyH_take (i := 21) (oi := _) (v := ?v20) rfl (by kernel_rfl) (by kernel_rfl) (by kernel_rfl) (fun _ _ _ h => h) (Or.inl ⟨by rfl, ?hy20⟩) (by assumption) ?rest20
    case hy20 => (intro w hSw; have hSc := hSw; go_simp; try with_reducible rfl)
    try simp only [Act.put, List.getElem_toArray, List.getElem_cons_zero, List.getElem_cons_succ, List.setIfInBounds_toArray, List.set_cons_zero, List.set_cons_succ]
    refine wpAnyH_done (by kernel_rfl) ?_ _
    go_wp2_with fail
    go_ret
    exact .inr ⟨rfl, (unhide HJ).bad (unhide F2) (pls_nnums rb nb) (unhide hbad)⟩
  | some p =>
    obtain ⟨zs, r1⟩ := p
    rw [hp] at hN
    have hl := intsP_len hp
    have hg2 : Hid (nodeP l = n3 { n with mode := zs.getD 0 0, user := zs.getD 1 0, group := zs.getD 2 0, links := zs.getD 3 0, time := zs.getD 4 0 } r1) := hide (by rw [hg, n2, hp]; rfl)
    clear h h' hR hC hD hE hg F0 hTs
    subst hO
    go_enter Try.func55, Try.ntmps55
    go_wp2_with fail
    refine wp_region_held_drew (S := (fun w' => w'.cell? ⟨nb, 0, none⟩ = some (rp rb))) (by kernel_rfl) hp0 (fun hHeld => ?_)
    refine wpAnyH_take (i := 0) (oi := _) (v := ?v21) rfl (by kernel_rfl) (by kernel_rfl) (by kernel_rfl) (fun _ _ _ h => h) (Or.inl ⟨by rfl, ?hy21⟩) (by assumption) ?rest21
    case hy21 => (intro w hSw; have hSc := hSw; go_simp; try with_reducible rfl)
    try simp only [Act.put, List.getElem_toArray, List.getElem_cons_zero, List.setIfInBounds_toArray, List.set_cons_zero, List.set_cons_succ]
    refine wpAnyH_take (i := 1) (oi := _) (v := ?v22) rfl (by kernel_rfl) (by kernel_rfl) (by kernel_rfl) (fun _ _ _ h => h) (Or.inl ⟨by rfl, ?hy22⟩) (by assumption) ?rest22
    case hy22 => (intro w hSw; have hSc := hSw; go_simp; try with_reducible rfl)
    try simp only [Act.put, List.getElem_toArray, List.getElem_cons_zero, List.getElem_cons_succ, List.setIfInBounds_toArray, List.set_cons_zero, List.set_cons_succ]
    refine wpAnyH_take (i := 2) (oi := _) (v := ?v23) rfl (by kernel_rfl) (by kernel_rfl) (by kernel_rfl) (fun _ _ _ h => h) (Or.inl ⟨by rfl, ?hy23⟩) (by assumption) ?rest23
    case hy23 => (intro w hSw; have hSc := hSw; go_simp; try with_reducible rfl)
    try simp only [Act.put, List.getElem_toArray, List.getElem_cons_zero, List.getElem_cons_succ, List.setIfInBounds_toArray, List.set_cons_zero, List.set_cons_succ]
    refine wpAnyH_take (i := 3) (oi := _) (v := ?v24) rfl (by kernel_rfl) (by kernel_rfl) (by kernel_rfl) (fun _ _ _ h => h) (Or.inl ⟨by rfl, ?hy24⟩) (by assumption) ?rest24
    case hy24 => (intro w hSw; have hSc := hSw; go_simp; try with_reducible rfl)
    try simp only [Act.put, List.getElem_toArray, List.getElem_cons_zero, List.getElem_cons_succ, List.setIfInBounds_toArray, List.set_cons_zero, List.set_cons_succ]
    refine wpAnyH_take (i := 4) (oi := _) (v := ?v25) rfl (by kernel_rfl) (by kernel_rfl) (by kernel_rfl) (fun _ _ _ h => h) (Or.inl ⟨by rfl, ?hy25⟩) (by assumption) ?rest25
    case hy25 => (intro w hSw; have hSc := hSw; go_simp; try with_reducible rfl)
    try simp only [Act.put, List.getElem_toArray, List.getElem_cons_zero, List.getElem_cons_succ, List.setIfInBounds_toArray, List.set_cons_zero, List.set_cons_succ]
    refine wpAnyH_take (i := 5) (oi := _) (v := ?v26) rfl (by kernel_rfl) (by kernel_rfl) (by kernel_rfl) (fun _ _ _ h => h) (Or.inl ⟨by rfl, ?hy26⟩) (by assumption) ?rest26
    case hy26 => (intro w hSw; have hSc := hSw; go_simp; try with_reducible rfl)
    try simp only [Act.put, List.getElem_toArray, List.getElem_cons_zero, List.getElem_cons_succ, List.setIfInBounds_toArray, List.set_cons_zero, List.set_cons_succ]
    refine wpAnyH_take (i := 6) (oi := _) (v := ?v27) rfl (by kernel_rfl) (by kernel_rfl) (by kernel_rfl) (fun _ _ _ h => h) (Or.inl ⟨by rfl, ?hy27⟩) (by assumption) ?rest27
    case hy27 => (intro w hSw; have hSc := hSw; go_simp; try with_reducible rfl)
    try simp only [Act.put, List.getElem_toArray, List.getElem_cons_zero, List.getElem_cons_succ, List.setIfInBounds_toArray, List.set_cons_zero, List.set_cons_succ]
    refine wpAnyH_take (i := 7) (oi := _) (v := ?v28) rfl (by kernel_rfl) (by kernel_rfl) (by kernel_rfl) (fun _ _ _ h => h) (Or.inl ⟨by rfl, ?hy28⟩) (by assumption) ?rest28
    case hy28 => (intro w hSw; have hSc := hSw; go_simp; try with_reducible rfl)
    try simp only [Act.put, List.getElem_toArray, List.getElem_cons_zero, List.getElem_cons_succ, List.setIfInBounds_toArray, List.set_cons_zero, List.set_cons_succ]
    refine wpAnyH_take (i := 8) (oi := _) (v := ?v29) rfl (by kernel_rfl) (by kernel_rfl) (by kernel_rfl) (fun _ _ _ h => h) (Or.inl ⟨by rfl, ?hy29⟩) (by assumption) ?rest29
    case hy29 => (intro w hSw; have hSc := hSw; go_simp; try with_reducible rfl)
    try simp only [Act.put, List.getElem_toArray, List.getElem_cons_zero, List.getElem_cons_succ, List.setIfInBounds_toArray, List.set_cons_zero, List.set_cons_succ]
    refine wpAnyH_take (i := 9) (oi := _) (v := ?v30) rfl (by kernel_rfl) (by kernel_rfl) (by kernel_rfl) (fun _ _ _ h => h) (Or.inl ⟨by rfl, ?hy30⟩) (by assumption) ?rest30
    case hy30 => (intro w hSw; have hSc := hSw; go_simp; try with_reducible rfl)
    try simp only [Act.put, List.getElem_toArray, List.getElem_cons_zero, List.getElem_cons_succ, List.setIfInBounds_toArray, List.set_cons_zero, List.set_cons_succ]
    refine wpAnyH_take (i := 10) (oi := _) (v := ?v31) rfl (by kernel_rfl) (by kernel_rfl) (by kernel_rfl) (fun _ _ _ h => h) (Or.inl ⟨by rfl, ?hy31⟩) (by assumption) ?rest31
    case hy31 => (intro w hSw; have hSc := hSw; go_simp; try with_reducible rfl)
    try simp only [Act.put, List.getElem_toArray, List.getElem_cons_zero, List.getElem_cons_succ, List.setIfInBounds_toArray, List.set_cons_zero, List.set_cons_succ]
    refine wpAnyH_take (i := 11) (oi := _) (v := ?v32) rfl (by kernel_rfl) (by kernel_rfl) (by kernel_rfl) (fun _ _ _ h => h) (Or.inl ⟨by rfl, ?hy32⟩) (by assumption) ?rest32
    case hy32 => (intro w hSw; have hSc := hSw; go_simp; try with_reducible rfl)
    try simp only [Act.put, List.getElem_toArray, List.getElem_cons_zero, List.getElem_cons_succ, List.setIfInBounds_toArray, List.set_cons_zero, List.set_cons_succ]
    refine wpAnyH_take (i := 12) (oi := _) (v := ?v33) rfl (by kernel_rfl) (by kernel_rfl) (by kernel_rfl) (fun _ _ _ h => h) (Or.inl ⟨by rfl, ?hy33⟩) (by assumption) ?rest33
    case hy33 => (intro w hSw; have hSc := hSw; go_simp; try with_reducible rfl)
    try simp only [Act.put, List.getElem_toArray, List.getElem_cons_zero, List.getElem_cons_succ, List.setIfInBounds_toArray, List.set_cons_zero, List.set_cons_succ]
    refine wpAnyH_take (i := 13) (oi := _) (v := ?v34) rfl (by kernel_rfl) (by kernel_rfl) (by kernel_rfl) (fun _ _ _ h => h) (Or.inl ⟨by rfl, ?hy34⟩) (by assumption) ?rest34
    case hy34 => (intro w hSw; have hSc := hSw; go_simp; try with_reducible rfl)
    try simp only [Act.put, List.getElem_toArray, List.getElem_cons_zero, List.getElem_cons_succ, List.setIfInBounds_toArray, List.set_cons_zero, List.set_cons_succ]
    refine wpAnyH_take (i := 14) (oi := _) (v := ?v35) rfl (by kernel_rfl) (by kernel_rfl) (by kernel_rfl) (fun _ _ _ h => h) (Or.inl ⟨by rfl, ?hy35⟩) (by assumption) ?rest35
    case hy35 => (intro w hSw; have hSc := hSw; go_simp; try with_reducible rfl)
    try simp only [Act.put, List.getElem_toArray, List.getElem_cons_zero, List.getElem_cons_succ, List.setIfInBounds_toArray, List.set_cons_zero, List.set_cons_succ]
    refine wpAnyH_take (i := 15) (oi := _) (v := ?v36) rfl (by kernel_rfl) (by kernel_rfl) (by kernel_rfl) (fun _ _ _ h => h) (Or.inl ⟨by rfl, ?hy36⟩) (by assumption) ?rest36
    case hy36 => (intro w hSw; have hSc := hSw; go_simp; try with_reducible rfl)
    try simp only [Act.put, List.getElem_toArray, List.getElem_cons_zero, List.getElem_cons_succ, List.setIfInBounds_toArray, List.set_cons_zero, List.set_cons_succ]
    refine wpAnyH_take (i := 16) (oi := _) (v := ?v37) rfl (by kernel_rfl) (by kernel_rfl) (by kernel_rfl) (fun _ _ _ h => h) (Or.inl ⟨by rfl, ?hy37⟩) (by assumption) ?rest37
    case hy37 => (intro w hSw; have hSc := hSw; go_simp; try with_reducible rfl)
    try simp only [Act.put, List.getElem_toArray, List.getElem_cons_zero, List.getElem_cons_succ, List.setIfInBounds_toArray, List.set_cons_zero, List.set_cons_succ]
    refine wpAnyH_take (i := 17) (oi := _) (v := ?v38) rfl (by kernel_rfl) (by kernel_rfl) (by kernel_rfl) (fun _ _ _ h => h) (Or.inl ⟨by rfl, ?hy38⟩) (by assumption) ?rest38
    case hy38 => (intro w hSw; have hSc := hSw; go_simp; try with_reducible rfl)
    try simp only [Act.put, List.getElem_toArray, List.getElem_cons_zero, List.getElem_cons_succ, List.setIfInBounds_toArray, List.set_cons_zero, List.set_cons_succ]
    refine wpAnyH_take (i := 18) (oi := _) (v := ?v39) rfl (by kernel_rfl) (by kernel_rfl) (by kernel_rfl) (fun _ _ _ h => h) (Or.inl ⟨by rfl, ?hy39⟩) (by assumption) ?rest39
    case hy39 => (intro w hSw; have hSc := hSw; go_simp; try with_reducible rfl)
    try simp only [Act.put, List.getElem_toArray, List.getElem_cons_zero, List.getElem_cons_succ, List.setIfInBounds_toArray, List.set_cons_zero, List.set_cons_succ]
    refine wpAnyH_ready (rs := [19]) (by kernel_rfl) (by simp) ?_
    refine AllReadyH.cons (o := _) rfl (fun K hK => ?_) AllReadyH.nil
    go_simp
    skip
    go_wp2_with fail
    refine hK.out _ _ (by first | exact (((below_new w.drew _).cell (p := ⟨nb, 0, none⟩) hlt).trans hp0) | assumption | (dsimp only; assumption)) (fun hHeld2 => ?_)
    clear hK K
    try simp only [Act.put, List.getElem_toArray, List.getElem_cons_zero, List.getElem_cons_succ, List.setIfInBounds_toArray, List.set_cons_zero, List.set_cons_succ]
    refine wpAnyH_ready (rs := [20]) (by kernel_rfl) (by simp) ?_
    refine AllReadyH.cons (o := _) rfl (fun K hK => ?_) AllReadyH.nil
    go_simp
    refine (unhide hN).mono ?_; rintro e w1 ⟨hF, rfl, hR1, hv⟩; have hS9 : w1.cell? ⟨nb, 0, none⟩ = some (rp rb) := (hF.cell ⟨nb, 0, none⟩ (Nat.lt_of_lt_of_le hlt (below_new w.drew _).size) (not_pls (pls_nnums rb nb) hne)).trans (((below_new w.drew _).cell (p := ⟨nb, 0, none⟩) hlt).trans hp0); have J9 : Hid (Jn 0 ws _ rb nb fb l n3 w1) := nnumsN (unhide HJ) (unhide HC) (unhide HD) (unhide HE) ((unhide HF0).trans hF) hR1 hl hv (unhide hg2) hbl; clear hF hR1 hv
    go_wp2_with fail
    refine hK.out _ _ (by first | exact hS9 | assumption | (dsimp only; assumption)) (fun hHeld2 => ?_)
    clear hK K
    try simp only [Act.put, List.getElem_toArray, List.getElem_cons_zero, List.getElem_cons_succ, List.setIfInBounds_toArray, List.set_cons_zero, List.set_cons_succ]
    refine wpAnyH_take (i := 21) (oi := _) (v := ?v40) rfl (by kernel_rfl) (by kernel_rfl) (by kernel_rfl) (fun _ _ _ h => h) (Or.inl ⟨by rfl, ?hy40⟩) (by assumption) ?rest40
    case hy40 => (intro w hSw; have hSc := hSw; go_simp; try with_reducible rfl)
    try simp only [Act.put, List.getElem_toArray, List.getElem_cons_zero, List.getElem_cons_succ, List.setIfInBounds_toArray, List.set_cons_zero, List.set_cons_succ]
    refine wpAnyH_done (by kernel_rfl) ?_ _
    go_wp2_with fail
    go_ret
    exact .inl ⟨rfl, unhide J9⟩
theorem pls_npar (rb nb : Nat) : Pls rb nb [(⟨rb, 0, none⟩ : Addr), (⟨nb, 10, none⟩ : Addr)] := by
  intro p hp
  simp only [List.mem_cons, List.not_mem_nil, or_false] at hp
  rcases hp with rfl | rfl
  · exact .inl rfl
  all_goals exact .inr ⟨rfl, by simp⟩
theorem nparN {ws : World} {K rb nb fb : Nat} {l : Bs} {w w1 : World} {n : Nd} {d e : Value} {zs : List Int} {r1 : Bs} (h : Jn 512 ws K rb nb fb l n6 w) (C : C10 w nb n d e) (D : Row (nb + 1) d n.data w) (E : RowE (nb + 1) e n.list w) (F2 : Fr [(⟨rb, 0, none⟩ : Addr), (⟨nb, 10, none⟩ : Addr)] w w1) (hR : Rd w1 K rb r1) (hl : zs.length = 1) (hv : ∀ (j : Nat) (t : Addr) (z : Int), [(⟨nb, 10, none⟩ : Addr)][j]? = some t → zs[j]? = some z → w1.cell? t = some (.int .i64 z)) (hg : nodeP l = n7 { n with parent := zs.getD 0 0 } r1) (hbl : n.list.length ≤ 512) : Jn 512 ws K rb nb fb l n7 w1 := by
  have z := fun (j : Nat) (t : Addr) (ht : [(⟨nb, 10, none⟩ : Addr)][j]? = some t) (hj : j < 1) => hv j t (zs.getD j 0) ht (by rw [List.getD, List.getElem?_eq_getElem (by omega)]; rfl)
  refine h.next (n' := { n with parent := zs.getD 0 0 }) F2 (pls_npar rb nb) hR ?_ (rowN_same D F2 (pls_npar rb nb) h.rlt) (rowE_same E F2 (pls_npar rb nb) h.rlt) hg hbl
  refine C.upd (fun i => i == 9) F2 (ten ?_ ?_ ?_ ?_ ?_ ?_ ?_ ?_ ?_ ?_) (fun i u hi hj hv' => ?_)
  all_goals first | (intro q; simp at q; done) | (intro _; exact ⟨by simp, rfl⟩) | skip
  obtain rfl : i = 9 := by simpa using hj
  · simp at hv'; subst hv'; exact z 0 _ rfl (by omega)
set_option maxHeartbeats 2000000 in
set_option maxRecDepth 100000 in
theorem npar_any (ws : World) (K rb nb fb : Nat) (l : Bs) (w : World) (h' : Jn 512 ws K rb nb fb l n6 w) : Calls Try.prog 59 #[rp nb] w (PartN 512 ws K rb nb fb l n7) := by
  have h := h'.drew
  obtain ⟨n, r, d, e, hR, hC, hD, hE, hg, hbl⟩ := h.ex
  have hlt := hC.lt
  have hne := h.lts.2.2
  have hp0 : w.cell? ⟨nb, 0, none⟩ = some (rp rb) := h'.ptr
  obtain ⟨O, hO⟩ : ∃ O : Obj, O = .cells #[.pointer (some ⟨nb, 10, none⟩)] 93 := ⟨_, rfl⟩
  have F0 : Fr (S := [(⟨rb, 0, none⟩ : Addr), (⟨nb, 10, none⟩ : Addr)]) w.drew (w.drew.alloc O) := Fr.of_below (below_new w.drew O)
  have hTs : Tgs (w.drew.alloc O) K rb w.drew.heap.size [(⟨nb, 10, none⟩ : Addr)] := by
    refine ⟨by simp, ?_, fun t ht => by
      have e : t.block = nb := by
        simp only [List.mem_cons, List.not_mem_nil, or_false] at ht
        rcases ht with rfl <;> rfl
      rw [e]
      exact Nat.ne_of_lt hlt, by simp⟩
    intro t ht
    simp only [List.mem_cons, List.not_mem_nil, or_false] at ht
    rcases ht with rfl
    · exact ⟨_, (TgN h hC hR.lo (i := 9) rfl).fr F0.nilS (by simp)⟩
  have hN0 := numbersInto_any K rb w.drew.heap.size 1 [(⟨nb, 10, none⟩ : Addr)] r (w.drew.alloc O) (hR.fr F0.nilS (by simp) (by simp)) hTs (by rw [hO]; exact heap_alloc_new w.drew _) (by have := h.lts; omega) rfl (by omega)
  have hN : Hid (Calls Try.prog 46 #[rp rb, .slice (some ⟨w.heap.size, 0, none⟩) 1 1] (w.alloc O).drew (NInR (w.drew.alloc O) K rb [(⟨nb, 10, none⟩ : Addr)] (intsP 1 r))) := hN0
  clear hN0
  unfold NInR at hN
  have HF0 := hide F0
  have HJ := hide h
  have HC := hide hC
  have HD := hide hD
  have HE := hide hE
  cases hp : intsP 1 r with
  | none =>
    rw [hp] at hN
    have hbad : Hid (nodeP l = none) := hide (by rw [hg, n6, hp]; rfl)
    clear h h' hR hC hD hE hg F0 hTs
    subst hO
    go_enter Try.func59, Try.ntmps59
    go_wp2_with fail
    refine wp_region_held_drew (S := (fun w' => w'.cell? ⟨nb, 0, none⟩ = some (rp rb))) (by kernel_rfl) hp0 (fun hHeld => ?_)
    refine wpAnyH_take (i := 0) (oi := _) (v := ?v41) rfl (by kernel_rfl) (by kernel_rfl) (by kernel_rfl) (fun _ _ _ h => h) (Or.inl ⟨by rfl, ?hy41⟩) (by assumption) ?rest41
    case hy41 => (intro w hSw; have hSc := hSw; go_simp; try with_reducible rfl)
    try simp only [Act.put, List.getElem_toArray, List.getElem_cons_zero, List.setIfInBounds_toArray, List.set_cons_zero, List.set_cons_succ]
    refine wpAnyH_take (i := 1) (oi := _) (v := ?v42) rfl (by kernel_rfl) (by kernel_rfl) (by kernel_rfl) (fun _ _ _ h => h) (Or.inl ⟨by rfl, ?hy42⟩) (by assumption) ?rest42
    case hy42 => (intro w hSw; have hSc := hSw; go_simp; try with_reducible rfl)
    try simp only [Act.put, List.getElem_toArray, List.getElem_cons_zero, List.getElem_cons_succ, List.setIfInBounds_toArray, List.set_cons_zero, List.set_cons_succ]
    refine wpAnyH_take (i := 2) (oi := _) (v := ?v43) rfl (by kernel_rfl) (by kernel_rfl) (by kernel_rfl) (fun _ _ _ h => h) (Or.inl ⟨by rfl, ?hy43⟩) (by assumption) ?rest43
    case hy43 => (intro w hSw; have hSc := hSw; go_simp; try with_reducible rfl)
    try simp only [Act.put, List.getElem_toArray, List.getElem_cons_zero, List.getElem_cons_succ, List.setIfInBounds_toArray, List.set_cons_zero, List.set_cons_succ]
    refine wpAnyH_take (i := 3) (oi := _) (v := ?v44) rfl (by kernel_rfl) (by kernel_rfl) (by kernel_rfl) (fun _ _ _ h => h) (Or.inl ⟨by rfl, ?hy44⟩) (by assumption) ?rest44
    case hy44 => (intro w hSw; have hSc := hSw; go_simp; try with_reducible rfl)
    try simp only [Act.put, List.getElem_toArray, List.getElem_cons_zero, List.getElem_cons_succ, List.setIfInBounds_toArray, List.set_cons_zero, List.set_cons_succ]
    refine wpAnyH_take (i := 4) (oi := _) (v := ?v45) rfl (by kernel_rfl) (by kernel_rfl) (by kernel_rfl) (fun _ _ _ h => h) (Or.inl ⟨by rfl, ?hy45⟩) (by assumption) ?rest45
    case hy45 => (intro w hSw; have hSc := hSw; go_simp; try with_reducible rfl)
    try simp only [Act.put, List.getElem_toArray, List.getElem_cons_zero, List.getElem_cons_succ, List.setIfInBounds_toArray, List.set_cons_zero, List.set_cons_succ]
    refine wpAnyH_take (i := 5) (oi := _) (v := ?v46) rfl (by kernel_rfl) (by kernel_rfl) (by kernel_rfl) (fun _ _ _ h => h) (Or.inl ⟨by rfl, ?hy46⟩) (by assumption) ?rest46
    case hy46 => (intro w hSw; have hSc := hSw; go_simp; try with_reducible rfl)
    try simp only [Act.put, List.getElem_toArray, List.getElem_cons_zero, List.getElem_cons_succ, List.setIfInBounds_toArray, List.set_cons_zero, List.set_cons_succ]
    refine wpAnyH_take (i := 6) (oi := _) (v := ?v47) rfl (by kernel_rfl) (by kernel_rfl) (by kernel_rfl) (fun _ _ _ h => h) (Or.inl ⟨by rfl, ?hy47⟩) (by assumption) ?rest47
    case hy47 => (intro w hSw; have hSc := hSw; go_simp; try with_reducible rfl)
    try simp only [Act.put, List.getElem_toArray, List.getElem_cons_zero, List.getElem_cons_succ, List.setIfInBounds_toArray, List.set_cons_zero, List.set_cons_succ]
    refine wpAnyH_take (i := 7) (oi := _) (v := ?v48) rfl (by kernel_rfl) (by kernel_rfl) (by kernel_rfl) (fun _ _ _ h => h) (Or.inl ⟨by rfl, ?hy48⟩) (by assumption) ?rest48
    case hy48 => (intro w hSw; have hSc := hSw; go_simp; try with_reducible rfl)
    try simp only [Act.put, List.getElem_toArray, List.getElem_cons_zero, List.getElem_cons_succ, List.setIfInBounds_toArray, List.set_cons_zero, List.set_cons_succ]
    refine wpAnyH_ready (rs := [8]) (by kernel_rfl) (by simp) ?_
    refine AllReadyH.cons (o := _) rfl (fun K hK => ?_) AllReadyH.nil
    go_simp
    skip
    go_wp2_with fail
    refine hK.out _ _ (by first | exact (((below_new w.drew _).cell (p := ⟨nb, 0, none⟩) hlt).trans hp0) | assumption | (dsimp only; assumption)) (fun hHeld2 => ?_)
    clear hK K
    try simp only [Act.put, List.getElem_toArray, List.getElem_cons_zero, List.getElem_cons_succ, List.setIfInBounds_toArray, List.set_cons_zero, List.set_cons_succ]
    refine wpAnyH_ready (rs := [9]) (by kernel_rfl) (by simp) ?_
    refine AllReadyH.cons (o := _) rfl (fun K hK => ?_) AllReadyH.nil
    go_simp
    refine (unhide hN).mono ?_; rintro e w1 ⟨hF, rfl⟩; have hS9 : w1.cell? ⟨nb, 0, none⟩ = some (rp rb) := (hF.cell ⟨nb, 0, none⟩ (Nat.lt_of_lt_of_le hlt (below_new w.drew _).size) (not_pls (pls_npar rb nb) hne)).trans (((below_new w.drew _).cell (p := ⟨nb, 0, none⟩) hlt).trans hp0); have F2 := hide ((unhide HF0).trans hF); clear hF
    go_wp2_with fail
    refine hK.out _ _ (by first | exact hS9 | assumption | (dsimp only; assumption)) (fun hHeld2 => ?_)
    clear hK K
    try simp only [Act.put, List.getElem_toArray, List.getElem_cons_zero, List.getElem_cons_succ, List.setIfInBounds_toArray, List.set_cons_zero, List.set_cons_succ]
    refine wpAnyH_take (i := 10) (oi := _) (v := ?v49) rfl (by kernel_rfl) (by kernel_rfl) (by kernel_rfl) (fun _ _ _ h => h) (Or.inl ⟨by rfl, ?hy49⟩) (by assumption) ?rest49
    case hy49 => (intro w hSw; have hSc := hSw; go_simp; try with_reducible rfl)
    try simp only [Act.put, List.getElem_toArray, List.getElem_cons_zero, List.getElem_cons_succ, List.setIfInBounds_toArray, List.set_cons_zero, List.set_cons_succ]
    refine wpAnyH_done (by kernel_rfl) ?_ _
    go_wp2_with fail
    go_ret
    exact .inr ⟨rfl, (unhide HJ).bad (unhide F2) (pls_npar rb nb) (unhide hbad)⟩
  | some p =>
    obtain ⟨zs, r1⟩ := p
    rw [hp] at hN
    have hl := intsP_len hp
    have hg2 : Hid (nodeP l = n7 { n with parent := zs.getD 0 0 } r1) := hide (by rw [hg, n6, hp]; rfl)
    clear h h' hR hC hD hE hg F0 hTs
    subst hO
    go_enter Try.func59, Try.ntmps59
    go_wp2_with fail
    refine wp_region_held_drew (S := (fun w' => w'.cell? ⟨nb, 0, none⟩ = some (rp rb))) (by kernel_rfl) hp0 (fun hHeld => ?_)
    refine wpAnyH_take (i := 0) (oi := _) (v := ?v50) rfl (by kernel_rfl) (by kernel_rfl) (by kernel_rfl) (fun _ _ _ h => h) (Or.inl ⟨by rfl, ?hy50⟩) (by assumption) ?rest50
    case hy50 => (intro w hSw; have hSc := hSw; go_simp; try with_reducible rfl)
    try simp only [Act.put, List.getElem_toArray, List.getElem_cons_zero, List.setIfInBounds_toArray, List.set_cons_zero, List.set_cons_succ]
    refine wpAnyH_take (i := 1) (oi := _) (v := ?v51) rfl (by kernel_rfl) (by kernel_rfl) (by kernel_rfl) (fun _ _ _ h => h) (Or.inl ⟨by rfl, ?hy51⟩) (by assumption) ?rest51
    case hy51 => (intro w hSw; have hSc := hSw; go_simp; try with_reducible rfl)
    try simp only [Act.put, List.getElem_toArray, List.getElem_cons_zero, List.getElem_cons_succ, List.setIfInBounds_toArray, List.set_cons_zero, List.set_cons_succ]
    refine wpAnyH_take (i := 2) (oi := _) (v := ?v52) rfl (by kernel_rfl) (by kernel_rfl) (by kernel_rfl) (fun _ _ _ h => h) (Or.inl ⟨by rfl, ?hy52⟩) (by assumption) ?rest52
    case hy52 => (intro w hSw; have hSc := hSw; go_simp; try with_reducible rfl)
    try simp only [Act.put, List.getElem_toArray, List.getElem_cons_zero, List.getElem_cons_succ, List.setIfInBounds_toArray, List.set_cons_zero, List.set_cons_succ]
    refine wpAnyH_take (i := 3) (oi := _) (v := ?v53) rfl (by kernel_rfl) (by kernel_rfl) (by kernel_rfl) (fun _ _ _ h => h) (Or.inl ⟨by rfl, ?hy53⟩) (by assumption) ?rest53
    case hy53 => (intro w hSw; have hSc := hSw; go_simp; try with_reducible rfl)
    try simp only [Act.put, List.getElem_toArray, List.getElem_cons_zero, List.getElem_cons_succ, List.setIfInBounds_toArray, List.set_cons_zero, List.set_cons_succ]
    refine wpAnyH_take (i := 4) (oi := _) (v := ?v54) rfl (by kernel_rfl) (by kernel_rfl) (by kernel_rfl) (fun _ _ _ h => h) (Or.inl ⟨by rfl, ?hy54⟩) (by assumption) ?rest54
    case hy54 => (intro w hSw; have hSc := hSw; go_simp; try with_reducible rfl)
    try simp only [Act.put, List.getElem_toArray, List.getElem_cons_zero, List.getElem_cons_succ, List.setIfInBounds_toArray, List.set_cons_zero, List.set_cons_succ]
    refine wpAnyH_take (i := 5) (oi := _) (v := ?v55) rfl (by kernel_rfl) (by kernel_rfl) (by kernel_rfl) (fun _ _ _ h => h) (Or.inl ⟨by rfl, ?hy55⟩) (by assumption) ?rest55
    case hy55 => (intro w hSw; have hSc := hSw; go_simp; try with_reducible rfl)
    try simp only [Act.put, List.getElem_toArray, List.getElem_cons_zero, List.getElem_cons_succ, List.setIfInBounds_toArray, List.set_cons_zero, List.set_cons_succ]
    refine wpAnyH_take (i := 6) (oi := _) (v := ?v56) rfl (by kernel_rfl) (by kernel_rfl) (by kernel_rfl) (fun _ _ _ h => h) (Or.inl ⟨by rfl, ?hy56⟩) (by assumption) ?rest56
    case hy56 => (intro w hSw; have hSc := hSw; go_simp; try with_reducible rfl)
    try simp only [Act.put, List.getElem_toArray, List.getElem_cons_zero, List.getElem_cons_succ, List.setIfInBounds_toArray, List.set_cons_zero, List.set_cons_succ]
    refine wpAnyH_take (i := 7) (oi := _) (v := ?v57) rfl (by kernel_rfl) (by kernel_rfl) (by kernel_rfl) (fun _ _ _ h => h) (Or.inl ⟨by rfl, ?hy57⟩) (by assumption) ?rest57
    case hy57 => (intro w hSw; have hSc := hSw; go_simp; try with_reducible rfl)
    try simp only [Act.put, List.getElem_toArray, List.getElem_cons_zero, List.getElem_cons_succ, List.setIfInBounds_toArray, List.set_cons_zero, List.set_cons_succ]
    refine wpAnyH_ready (rs := [8]) (by kernel_rfl) (by simp) ?_
    refine AllReadyH.cons (o := _) rfl (fun K hK => ?_) AllReadyH.nil
    go_simp
    skip
    go_wp2_with fail
    refine hK.out _ _ (by first | exact (((below_new w.drew _).cell (p := ⟨nb, 0, none⟩) hlt).trans hp0) | assumption | (dsimp only; assumption)) (fun hHeld2 => ?_)
    clear hK K
    try simp only [Act.put, List.getElem_toArray, List.getElem_cons_zero, List.getElem_cons_succ, List.setIfInBounds_toArray, List.set_cons_zero, List.set_cons_succ]
    refine wpAnyH_ready (rs := [9]) (by kernel_rfl) (by simp) ?_
    refine AllReadyH.cons (o := _) rfl (fun K hK => ?_) AllReadyH.nil
    go_simp
    refine (unhide hN).mono ?_; rintro e w1 ⟨hF, rfl, hR1, hv⟩; have hS9 : w1.cell? ⟨nb, 0, none⟩ = some (rp rb) := (hF.cell ⟨nb, 0, none⟩ (Nat.lt_of_lt_of_le hlt (below_new w.drew _).size) (not_pls (pls_npar rb nb) hne)).trans (((below_new w.drew _).cell (p := ⟨nb, 0, none⟩) hlt).trans hp0); have J9 : Hid (Jn 512 ws _ rb nb fb l n7 w1) := nparN (unhide HJ) (unhide HC) (unhide HD) (unhide HE) ((unhide HF0).trans hF) hR1 hl hv (unhide hg2) hbl; clear hF hR1 hv
    go_wp2_with fail
    refine hK.out _ _ (by first | exact hS9 | assumption | (dsimp only; assumption)) (fun hHeld2 => ?_)
    clear hK K
    try simp only [Act.put, List.getElem_toArray, List.getElem_cons_zero, List.getElem_cons_succ, List.setIfInBounds_toArray, List.set_cons_zero, List.set_cons_succ]
    refine wpAnyH_take (i := 10) (oi := _) (v := ?v58) rfl (by kernel_rfl) (by kernel_rfl) (by kernel_rfl) (fun _ _ _ h => h) (Or.inl ⟨by rfl, ?hy58⟩) (by assumption) ?rest58
    case hy58 => (intro w hSw; have hSc := hSw; go_simp; try with_reducible rfl)
    try simp only [Act.put, List.getElem_toArray, List.getElem_cons_zero, List.getElem_cons_succ, List.setIfInBounds_toArray, List.set_cons_zero, List.set_cons_succ]
    refine wpAnyH_done (by kernel_rfl) ?_ _
    go_wp2_with fail
    go_ret
    exact .inl ⟨rfl, unhide J9⟩
end Go.Proofs.Ytbofidpoajdcmab.Cd
