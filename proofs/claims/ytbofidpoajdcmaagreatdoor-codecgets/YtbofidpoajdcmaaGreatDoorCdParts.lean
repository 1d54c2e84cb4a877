/- The parts of a call that are read: data, numbers, env, paths. -/
import Derived.Test.YtbofidpoajdcmaaGreatDoorCdGetP
import Derived.Deep.RegionWith
namespace Go.Proofs.YtbofidpoajdcmaaGreatDoor.Cd
open Go.RowKit Cu Tr

theorem Js.drew {w0 : World} {K rb fb : Nat} {l : Bs} {g : Rest} {w : World} (h : Js w0 K rb fb l g w) : Js w0 K rb fb l g w.drew := by
  obtain ⟨c, r, d, hR, hC, hD, hg⟩ := h.ex
  have F : Fr [] w w.drew := (Fr.refl [] w).drew 1
  have q := fun i => F.cell ⟨rb, i, none⟩ hC.lt (by simp)
  exact h.next F (by simp) (hR.fr F (by simp) (by simp)) ⟨(q 1).trans hC.c1, (q 2).trans hC.c2, (q 3).trans hC.c3, (q 4).trans hC.c4, (q 5).trans hC.c5, (q 6).trans hC.c6, (q 7).trans hC.c7, (q 8).trans hC.c8, (q 9).trans hC.c9, (q 10).trans hC.c10, (q 11).trans hC.c11, (q 12).trans hC.c12, fun i => (F.frozen _ hC.lt).trans (hC.fz i), hC.lt⟩ (row_same hD F (by simp)) hg
theorem dataJ {w0 : World} {K rb fb : Nat} {l : Bs} {w w1 : World} {c : Ca} {d v : Value} {x r1 : Bs} (h : Js w0 K rb fb l g4 w) (C : C13 w rb c d) (F2 : Fr [⟨rb, 0, none⟩, ⟨rb, 8, none⟩] w w1) (hR : Rd w1 K rb r1) (hv : w1.cell? ⟨rb, 8, none⟩ = some v) (hRow : Row w.heap.size v x w1) (hg : getP l = g5 { c with data := x } r1) : Js w0 K rb fb l g5 w1 := by
  refine h.next (c' := { c with data := x }) (d' := v) F2 (by simp) hR ?_ (row_base hRow C.lt) hg
  have q := fun i (hi : (⟨rb, i, none⟩ : Addr) ∉ [(⟨rb, 0, none⟩ : Addr), ⟨rb, 8, none⟩]) => F2.cell ⟨rb, i, none⟩ C.lt hi
  exact ⟨(q 1 (by simp)).trans C.c1, (q 2 (by simp)).trans C.c2, (q 3 (by simp)).trans C.c3, (q 4 (by simp)).trans C.c4, (q 5 (by simp)).trans C.c5, (q 6 (by simp)).trans C.c6, (q 7 (by simp)).trans C.c7, hv, (q 9 (by simp)).trans C.c9, (q 10 (by simp)).trans C.c10, (q 11 (by simp)).trans C.c11, (q 12 (by simp)).trans C.c12, fun i => (F2.frozen _ C.lt).trans (C.fz i), Nat.lt_of_lt_of_le C.lt F2.size⟩
set_option maxHeartbeats 1000000 in
set_option maxRecDepth 100000 in
theorem data_part (w0 : World) (K rb fb : Nat) (l : Bs) (w : World) (h' : Js w0 K rb fb l g4 w) : Calls Tryz.prog 125 #[rp rb] w (PartR w0 K rb fb l g5) := by
  have h := h'.drew
  obtain ⟨c, r, d, hR, hC, hD, hg⟩ := h.ex
  have hlt := hC.lt
  have hN := hide (dataInto_any K rb rb 8 d r w.drew hR (Tg.of (i := 7) hC hR.lo hC.c8))
  unfold DInR at hN
  have HJ := hide h
  have HC := hide hC
  have HD := hide hD
  cases hp : txtP r with
  | none =>
    rw [hp] at hN
    have hbad : Hid (getP l = none) := hide (by rw [hg, g4, hp]; rfl)
    clear h h' hR hC hD hg
    go_enter Tryz.func125, Tryz.ntmps125
    go_wp2_with fail
    go_region_with (go_at_call 144; refine (unhide hN).mono ?_; rintro e w1 ⟨hF, rfl⟩; have F2 := hide hF; clear hF)
    go_wp2_with fail
    go_ret
    exact .inr ⟨rfl, (unhide HJ).bad (unhide F2) (by simp) (unhide hbad)⟩
  | some p =>
    obtain ⟨x, r1⟩ := p
    rw [hp] at hN
    have hg2 : Hid (getP l = g5 { c with data := x } r1) := hide (by rw [hg, g4, hp]; rfl)
    clear h h' hR hC hD hg
    go_enter Tryz.func125, Tryz.ntmps125
    go_wp2_with fail
    go_region_with (go_at_call 144; refine (unhide hN).mono ?_; rintro e w1 ⟨hF, rfl, hR1, v, hv, hRow⟩; have J9 : Hid (Js w0 K rb fb l g5 w1) := dataJ (unhide HJ) (unhide HC) hF hR1 hv hRow (unhide hg2); clear hF hR1 hv hRow)
    go_wp2_with fail
    go_ret
    exact .inl ⟨rfl, unhide J9⟩
theorem Fr.nilS {S : List Addr} {w : World} {O : Obj} (_h : Fr S w (w.alloc O)) : Fr [] w (w.alloc O) := Fr.of_below (below_new w O)
theorem numbersJ {w0 : World} {K rb fb : Nat} {l : Bs} {w w1 : World} {c : Ca} {d : Value} {zs : List Int} {r1 : Bs} (h : Js w0 K rb fb l g3 w) (C : C13 w rb c d) (D : Row (rb + 1) d c.data w) (F2 : Fr [⟨rb, 0, none⟩, ⟨rb, 4, none⟩, ⟨rb, 5, none⟩, ⟨rb, 6, none⟩, ⟨rb, 7, none⟩] w w1) (hR : Rd w1 K rb r1) (hl : zs.length = 4) (hv : ∀ (j : Nat) (t : Addr) (z : Int), [(⟨rb, 4, none⟩ : Addr), (⟨rb, 5, none⟩ : Addr), (⟨rb, 6, none⟩ : Addr), (⟨rb, 7, none⟩ : Addr)][j]? = some t → zs[j]? = some z → w1.cell? t = some (.int .i64 z)) (hg : getP l = g4 { c with mode := zs.getD 0 0, user := zs.getD 1 0, group := zs.getD 2 0, time := zs.getD 3 0 } r1) : Js w0 K rb fb l g4 w1 := by
  refine h.next (c' := { c with mode := zs.getD 0 0, user := zs.getD 1 0, group := zs.getD 2 0, time := zs.getD 3 0 }) (d' := d) F2 (by simp) hR ?_ (row_same D F2 (by simp)) hg
  have q := fun i (hi : (⟨rb, i, none⟩ : Addr) ∉ [(⟨rb, 0, none⟩ : Addr), ⟨rb, 4, none⟩, ⟨rb, 5, none⟩, ⟨rb, 6, none⟩, ⟨rb, 7, none⟩]) => F2.cell ⟨rb, i, none⟩ C.lt hi
  have z := fun (j : Nat) (t : Addr) (ht : [(⟨rb, 4, none⟩ : Addr), (⟨rb, 5, none⟩ : Addr), (⟨rb, 6, none⟩ : Addr), (⟨rb, 7, none⟩ : Addr)][j]? = some t) (hj : j < 4) => hv j t (zs.getD j 0) ht (by rw [List.getD, List.getElem?_eq_getElem (by omega)]; rfl)
  exact ⟨(q 1 (by simp)).trans C.c1, (q 2 (by simp)).trans C.c2, (q 3 (by simp)).trans C.c3, z 0 _ rfl (by omega), z 1 _ rfl (by omega), z 2 _ rfl (by omega), z 3 _ rfl (by omega), (q 8 (by simp)).trans C.c8, (q 9 (by simp)).trans C.c9, (q 10 (by simp)).trans C.c10, (q 11 (by simp)).trans C.c11, (q 12 (by simp)).trans C.c12, fun i => (F2.frozen _ C.lt).trans (C.fz i), Nat.lt_of_lt_of_le C.lt F2.size⟩
set_option maxHeartbeats 2000000 in
set_option maxRecDepth 100000 in
theorem numbers_part (w0 : World) (K rb fb : Nat) (l : Bs) (w : World) (h' : Js w0 K rb fb l g3 w) : Calls Tryz.prog 124 #[rp rb] w (PartR w0 K rb fb l g4) := by
  have h := h'.drew
  obtain ⟨c, r, d, hR, hC, hD, hg⟩ := h.ex
  have hlt := hC.lt
  obtain ⟨O, hO⟩ : ∃ O : Obj, O = .cells #[.pointer (some ⟨rb, 4, none⟩), .pointer (some ⟨rb, 5, none⟩), .pointer (some ⟨rb, 6, none⟩), .pointer (some ⟨rb, 7, none⟩)] 192 := ⟨_, rfl⟩
  have F0 : Fr (S := [⟨rb, 0, none⟩, ⟨rb, 4, none⟩, ⟨rb, 5, none⟩, ⟨rb, 6, none⟩, ⟨rb, 7, none⟩]) w.drew (w.drew.alloc O) := Fr.of_below (below_new w.drew O)
  have q := fun i => (below_new w.drew O).cell (p := ⟨rb, i, none⟩) hlt
  have hTs : Tgs (w.drew.alloc O) K rb w.drew.heap.size [(⟨rb, 4, none⟩ : Addr), (⟨rb, 5, none⟩ : Addr), (⟨rb, 6, none⟩ : Addr), (⟨rb, 7, none⟩ : Addr)] := by
    refine ⟨by simp, ?_, fun t ht => by
      have e : t.block = rb := by
        simp only [List.mem_cons, List.not_mem_nil, or_false] at ht
        rcases ht with rfl | rfl | rfl | rfl <;> rfl
      rw [e]
      exact Nat.ne_of_lt hlt, by simp⟩
    intro t ht
    simp only [List.mem_cons, List.not_mem_nil, or_false] at ht
    rcases ht with rfl | rfl | rfl | rfl
    · exact ⟨_, (Tg.of (i := 3) hC hR.lo hC.c4).fr F0.nilS (by simp)⟩
    · exact ⟨_, (Tg.of (i := 4) hC hR.lo hC.c5).fr F0.nilS (by simp)⟩
    · exact ⟨_, (Tg.of (i := 5) hC hR.lo hC.c6).fr F0.nilS (by simp)⟩
    · exact ⟨_, (Tg.of (i := 6) hC hR.lo hC.c7).fr F0.nilS (by simp)⟩
  have hN0 := numbersInto_any K rb w.drew.heap.size 4 [(⟨rb, 4, none⟩ : Addr), (⟨rb, 5, none⟩ : Addr), (⟨rb, 6, none⟩ : Addr), (⟨rb, 7, none⟩ : Addr)] r (w.drew.alloc O) (hR.fr F0.nilS (by simp) (by simp)) hTs (by rw [hO]; exact heap_alloc_new w.drew _) (by omega) rfl (by omega)
  have hN : Hid (Calls Tryz.prog 143 #[rp rb, .slice (some ⟨w.heap.size, 0, none⟩) 4 4] (w.alloc O).drew (NInR (w.drew.alloc O) K rb [(⟨rb, 4, none⟩ : Addr), (⟨rb, 5, none⟩ : Addr), (⟨rb, 6, none⟩ : Addr), (⟨rb, 7, none⟩ : Addr)] (intsP 4 r))) := hN0
  clear hN0
  unfold NInR at hN
  have HF0 := hide F0
  have HJ := hide h
  have HC := hide hC
  have HD := hide hD
  cases hp : intsP 4 r with
  | none =>
    rw [hp] at hN
    have hbad : Hid (getP l = none) := hide (by rw [hg, g3, hp]; rfl)
    clear h h' hR hC hD hg F0 hTs q
    subst hO
    go_enter Tryz.func124, Tryz.ntmps124
    go_wp2_with fail
    go_region_with (go_at_call 143; refine (unhide hN).mono ?_; rintro e w1 ⟨hF, rfl⟩; have F2 := hide ((unhide HF0).trans hF); clear hF)
    go_wp2_with fail
    go_ret
    exact .inr ⟨rfl, (unhide HJ).bad (unhide F2) (by simp) (unhide hbad)⟩
  | some p =>
    obtain ⟨zs, r1⟩ := p
    rw [hp] at hN
    have hl := intsP_len hp
    have hg2 : Hid (getP l = g4 { c with mode := zs.getD 0 0, user := zs.getD 1 0, group := zs.getD 2 0, time := zs.getD 3 0 } r1) := hide (by rw [hg, g3, hp]; rfl)
    clear h h' hR hC hD hg F0 hTs q
    subst hO
    go_enter Tryz.func124, Tryz.ntmps124
    go_wp2_with fail
    go_region_with (go_at_call 143; refine (unhide hN).mono ?_; rintro e w1 ⟨hF, rfl, hR1, hv⟩; have J9 : Hid (Js w0 K rb fb l g4 w1) := numbersJ (unhide HJ) (unhide HC) (unhide HD) ((unhide HF0).trans hF) hR1 hl hv (unhide hg2); clear hF hR1 hv)
    go_wp2_with fail
    go_ret
    exact .inl ⟨rfl, unhide J9⟩
theorem envJ {w0 : World} {K rb fb : Nat} {l : Bs} {w w1 : World} {c : Ca} {d : Value} {zs : List Int} {r1 : Bs} (h : Js w0 K rb fb l g5 w) (C : C13 w rb c d) (D : Row (rb + 1) d c.data w) (F2 : Fr [⟨rb, 0, none⟩, ⟨rb, 9, none⟩, ⟨rb, 10, none⟩, ⟨rb, 11, none⟩, ⟨rb, 12, none⟩] w w1) (hR : Rd w1 K rb r1) (hl : zs.length = 4) (hv : ∀ (j : Nat) (t : Addr) (z : Int), [(⟨rb, 9, none⟩ : Addr), (⟨rb, 10, none⟩ : Addr), (⟨rb, 11, none⟩ : Addr), (⟨rb, 12, none⟩ : Addr)][j]? = some t → zs[j]? = some z → w1.cell? t = some (.int .i64 z)) (hg : getP l = g6 { c with eu := zs.getD 0 0, eg := zs.getD 1 0, em := zs.getD 2 0, ed := zs.getD 3 0 } r1) : Js w0 K rb fb l g6 w1 := by
  refine h.next (c' := { c with eu := zs.getD 0 0, eg := zs.getD 1 0, em := zs.getD 2 0, ed := zs.getD 3 0 }) (d' := d) F2 (by simp) hR ?_ (row_same D F2 (by simp)) hg
  have q := fun i (hi : (⟨rb, i, none⟩ : Addr) ∉ [(⟨rb, 0, none⟩ : Addr), ⟨rb, 9, none⟩, ⟨rb, 10, none⟩, ⟨rb, 11, none⟩, ⟨rb, 12, none⟩]) => F2.cell ⟨rb, i, none⟩ C.lt hi
  have z := fun (j : Nat) (t : Addr) (ht : [(⟨rb, 9, none⟩ : Addr), (⟨rb, 10, none⟩ : Addr), (⟨rb, 11, none⟩ : Addr), (⟨rb, 12, none⟩ : Addr)][j]? = some t) (hj : j < 4) => hv j t (zs.getD j 0) ht (by rw [List.getD, List.getElem?_eq_getElem (by omega)]; rfl)
  exact ⟨(q 1 (by simp)).trans C.c1, (q 2 (by simp)).trans C.c2, (q 3 (by simp)).trans C.c3, (q 4 (by simp)).trans C.c4, (q 5 (by simp)).trans C.c5, (q 6 (by simp)).trans C.c6, (q 7 (by simp)).trans C.c7, (q 8 (by simp)).trans C.c8, z 0 _ rfl (by omega), z 1 _ rfl (by omega), z 2 _ rfl (by omega), z 3 _ rfl (by omega), fun i => (F2.frozen _ C.lt).trans (C.fz i), Nat.lt_of_lt_of_le C.lt F2.size⟩
set_option maxHeartbeats 2000000 in
set_option maxRecDepth 100000 in
theorem env_part (w0 : World) (K rb fb : Nat) (l : Bs) (w : World) (h' : Js w0 K rb fb l g5 w) : Calls Tryz.prog 126 #[rp rb] w (PartR w0 K rb fb l g6) := by
  have h := h'.drew
  obtain ⟨c, r, d, hR, hC, hD, hg⟩ := h.ex
  have hlt := hC.lt
  obtain ⟨O, hO⟩ : ∃ O : Obj, O = .cells #[.pointer (some ⟨rb, 9, none⟩), .pointer (some ⟨rb, 10, none⟩), .pointer (some ⟨rb, 11, none⟩), .pointer (some ⟨rb, 12, none⟩)] 192 := ⟨_, rfl⟩
  have F0 : Fr (S := [⟨rb, 0, none⟩, ⟨rb, 9, none⟩, ⟨rb, 10, none⟩, ⟨rb, 11, none⟩, ⟨rb, 12, none⟩]) w.drew (w.drew.alloc O) := Fr.of_below (below_new w.drew O)
  have q := fun i => (below_new w.drew O).cell (p := ⟨rb, i, none⟩) hlt
  have hTs : Tgs (w.drew.alloc O) K rb w.drew.heap.size [(⟨rb, 9, none⟩ : Addr), (⟨rb, 10, none⟩ : Addr), (⟨rb, 11, none⟩ : Addr), (⟨rb, 12, none⟩ : Addr)] := by
    refine ⟨by simp, ?_, fun t ht => by
      have e : t.block = rb := by
        simp only [List.mem_cons, List.not_mem_nil, or_false] at ht
        rcases ht with rfl | rfl | rfl | rfl <;> rfl
      rw [e]
      exact Nat.ne_of_lt hlt, by simp⟩
    intro t ht
    simp only [List.mem_cons, List.not_mem_nil, or_false] at ht
    rcases ht with rfl | rfl | rfl | rfl
    · exact ⟨_, (Tg.of (i := 8) hC hR.lo hC.c9).fr F0.nilS (by simp)⟩
    · exact ⟨_, (Tg.of (i := 9) hC hR.lo hC.c10).fr F0.nilS (by simp)⟩
    · exact ⟨_, (Tg.of (i := 10) hC hR.lo hC.c11).fr F0.nilS (by simp)⟩
    · exact ⟨_, (Tg.of (i := 11) hC hR.lo hC.c12).fr F0.nilS (by simp)⟩
  have hN0 := numbersInto_any K rb w.drew.heap.size 4 [(⟨rb, 9, none⟩ : Addr), (⟨rb, 10, none⟩ : Addr), (⟨rb, 11, none⟩ : Addr), (⟨rb, 12, none⟩ : Addr)] r (w.drew.alloc O) (hR.fr F0.nilS (by simp) (by simp)) hTs (by rw [hO]; exact heap_alloc_new w.drew _) (by omega) rfl (by omega)
  have hN : Hid (Calls Tryz.prog 143 #[rp rb, .slice (some ⟨w.heap.size, 0, none⟩) 4 4] (w.alloc O).drew (NInR (w.drew.alloc O) K rb [(⟨rb, 9, none⟩ : Addr), (⟨rb, 10, none⟩ : Addr), (⟨rb, 11, none⟩ : Addr), (⟨rb, 12, none⟩ : Addr)] (intsP 4 r))) := hN0
  clear hN0
  unfold NInR at hN
  have HF0 := hide F0
  have HJ := hide h
  have HC := hide hC
  have HD := hide hD
  cases hp : intsP 4 r with
  | none =>
    rw [hp] at hN
    have hbad : Hid (getP l = none) := hide (by rw [hg, g5, hp]; rfl)
    clear h h' hR hC hD hg F0 hTs q
    subst hO
    go_enter Tryz.func126, Tryz.ntmps126
    go_wp2_with fail
    go_region_with (go_at_call 143; refine (unhide hN).mono ?_; rintro e w1 ⟨hF, rfl⟩; have F2 := hide ((unhide HF0).trans hF); clear hF)
    go_wp2_with fail
    go_ret
    exact .inr ⟨rfl, (unhide HJ).bad (unhide F2) (by simp) (unhide hbad)⟩
  | some p =>
    obtain ⟨zs, r1⟩ := p
    rw [hp] at hN
    have hl := intsP_len hp
    have hg2 : Hid (getP l = g6 { c with eu := zs.getD 0 0, eg := zs.getD 1 0, em := zs.getD 2 0, ed := zs.getD 3 0 } r1) := hide (by rw [hg, g5, hp]; rfl)
    clear h h' hR hC hD hg F0 hTs q
    subst hO
    go_enter Tryz.func126, Tryz.ntmps126
    go_wp2_with fail
    go_region_with (go_at_call 143; refine (unhide hN).mono ?_; rintro e w1 ⟨hF, rfl, hR1, hv⟩; have J9 : Hid (Js w0 K rb fb l g6 w1) := envJ (unhide HJ) (unhide HC) (unhide HD) ((unhide HF0).trans hF) hR1 hl hv (unhide hg2); clear hF hR1 hv)
    go_wp2_with fail
    go_ret
    exact .inl ⟨rfl, unhide J9⟩
end Go.Proofs.YtbofidpoajdcmaaGreatDoor.Cd
