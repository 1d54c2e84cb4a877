/- Some answers that the document fixes. -/
import Derived.Test.YtmpppdbomdepoaaGreatDoorSoSrt
import Derived.Test.YtmpppdbomdepoaaGreatDoorSoChk
import Derived.Test.YtmpppdbomdepoaaGreatDoorSoRn
import Derived.Test.YtmpppdbomdepoaaGreatDoorSoCm
import Derived.Test.YtmpppdbomdepoaaGreatDoorSoShelf
namespace Go.Proofs.YtmpppdbomdepoaaGreatDoor.So
open Go.RowKit Go.Shelf Ky
open Pa (Tx)

attribute [local go_sem] Oper.semAt_some

/-- IndexAny, of plain bytes -/
theorem ix_ascii (t : Bs) (h : ∀ c ∈ t, c.toNat < 128) (hl : t.length < 4294967281) : IxSays t := fun W => by
  refine (Tryz.strings_IndexAny_laid (Ln.bt t) { data := #[32, 9] } W hl (by decide) (fun j b hb => h b (List.mem_of_getElem? hb)) (fun j b hb => ?_)).mono fun e w' q => ⟨by rw [q.1]; rfl, q.2⟩
  have := List.mem_of_getElem? hb
  simp at this
  rcases this with rfl | rfl <;> decide

def alA4 : Ls := [⟨#[49, 48]⟩, ⟨#[57]⟩, ⟨#[48, 57]⟩, ⟨#[57]⟩]
def alO : Ky.Ord := ⟨0, 0, 0, true, false, false, false⟩
theorem al_s1 : sortA alO false alA4 = [⟨#[48, 57]⟩, ⟨#[57]⟩, ⟨#[57]⟩, ⟨#[49, 48]⟩] := by
  show sortL alO false alA4 = _
  exact (sort_is alO alA4 _ (by decide +kernel) (by unfold InO; decide +kernel)).symm
theorem al_s2 : sortA alO true alA4 = [⟨#[57]⟩, ⟨#[49, 48]⟩] := by
  show uq (cB alO true) (ms (cB alO true) alA4) = _
  refine (uq_is (good_cB alO true) alA4 _ (by unfold Strict; decide +kernel) (fun x => ?_)).symm
  constructor
  · intro h
    simp at h
    rcases h with rfl | rfl
    · show _ = _; decide +kernel
    · show _ = _; decide +kernel
  · intro h
    have hx : x ∈ alA4 := by
      unfold First at h
      exact (List.mem_filter.1 (List.mem_of_mem_head? (by rw [h]; rfl))).1
    simp [alA4] at hx
    rcases hx with rfl | rfl | rfl | rfl
    · simp
    · simp
    · exfalso
      revert h
      unfold First
      decide +kernel
    · simp
theorem al_e1 : sortE alO 4 = 0 := by decide +kernel
theorem al_e3 : sortE ⟨0, 1, 0, false, false, false, false⟩ 0 = 1 := by decide +kernel
theorem al_c : checkL ⟨0, 0, 0, false, false, false, false⟩ false [⟨#[97]⟩, ⟨#[98]⟩, ⟨#[97]⟩] = 2 := by decide +kernel
theorem al_r : runsN 1 0 [⟨#[49, 32, 120]⟩, ⟨#[50, 32, 120]⟩, ⟨#[51, 32, 121]⟩] 3 = [(⟨#[49, 32, 120]⟩, 2), (⟨#[51, 32, 121]⟩, 1)] := by decide +kernel
theorem al_m : (comm [⟨#[97]⟩, ⟨#[98]⟩, ⟨#[100]⟩] [⟨#[98]⟩, ⟨#[99]⟩, ⟨#[100]⟩]).1.length = 1 ∧ (comm [⟨#[97]⟩, ⟨#[98]⟩, ⟨#[100]⟩] [⟨#[98]⟩, ⟨#[99]⟩, ⟨#[100]⟩]).2.1.length = 1 ∧ (comm [⟨#[97]⟩, ⟨#[98]⟩, ⟨#[100]⟩] [⟨#[98]⟩, ⟨#[99]⟩, ⟨#[100]⟩]).2.2.length = 2 := by
  simp only [comm_cons, comm_nil, comm_nil']
  decide +kernel

theorem lit_below (W W' : World) (o : Obj) (b : Below (W.alloc o).heap.size (W.alloc o) W') : Below W.heap.size W W' := ((Below.refl W.heap.size W).alloc (Nat.le_refl _) o).trans (b.mono (by simp))
theorem a_s1 (W : World) : Calls Tryz.prog 16 #[.agg #[.bool true, .bool false, .bool false, .bool false, .int .i64 0, .int .i64 0, .int .u8 0], .slice (some ⟨W.heap.size, 0, none⟩) 4 4, .bool false] (W.alloc (.cells #[.string { data := #[49, 48] }, .string { data := #[57] }, .string { data := #[48, 57] }, .string { data := #[57] }] 9)) fun e w' => ∃ a c, e = .returned (.tuple #[.slice a 4 c, .int .i64 0]) ∧ Tx w' a 4 c [⟨#[48, 57]⟩, ⟨#[57]⟩, ⟨#[57]⟩, ⟨#[49, 48]⟩] ∧ Below W.heap.size W w' := by
  have q := sort_any alO false alA4 (some ⟨W.heap.size, 0, none⟩) 4 4 (W.alloc (.cells #[.string { data := #[49, 48] }, .string { data := #[57] }, .string { data := #[48, 57] }, .string { data := #[57] }] 9)) (Pa.tx_lit W alA4 9) (by decide) (fun _ s h => by simp [alA4] at h; rcases h with rfl | rfl | rfl | rfl <;> decide)
  refine q.mono fun e w' h => ?_
  obtain ⟨v, rfl, o, b⟩ := h
  rw [al_s1] at o
  obtain ⟨a, c, rfl, t, _⟩ := own_tx o
  exact ⟨a, c, by rw [al_e1]; rfl, t, lit_below _ _ _ b⟩
theorem a_s2 (W : World) : Calls Tryz.prog 16 #[.agg #[.bool true, .bool false, .bool false, .bool false, .int .i64 0, .int .i64 0, .int .u8 0], .slice (some ⟨W.heap.size, 0, none⟩) 4 4, .bool true] (W.alloc (.cells #[.string { data := #[49, 48] }, .string { data := #[57] }, .string { data := #[48, 57] }, .string { data := #[57] }] 9)) fun e w' => ∃ a c, e = .returned (.tuple #[.slice a 2 c, .int .i64 0]) ∧ Tx w' a 2 c [⟨#[57]⟩, ⟨#[49, 48]⟩] ∧ Below W.heap.size W w' := by
  have q := sort_any alO true alA4 (some ⟨W.heap.size, 0, none⟩) 4 4 (W.alloc (.cells #[.string { data := #[49, 48] }, .string { data := #[57] }, .string { data := #[48, 57] }, .string { data := #[57] }] 9)) (Pa.tx_lit W alA4 9) (by decide) (fun _ s h => by simp [alA4] at h; rcases h with rfl | rfl | rfl | rfl <;> decide)
  refine q.mono fun e w' h => ?_
  obtain ⟨v, rfl, o, b⟩ := h
  rw [al_s2] at o
  obtain ⟨a, c, rfl, t, _⟩ := own_tx o
  exact ⟨a, c, by rw [al_e1]; rfl, t, lit_below _ _ _ b⟩
theorem a_s3 (W : World) : Calls Tryz.prog 16 #[.agg #[.bool false, .bool false, .bool false, .bool false, .int .i64 0, .int .i64 1, .int .u8 0], .slice none 0 0, .bool false] W fun e w' => ∃ a c, e = .returned (.tuple #[.slice a 0 c, .int .i64 1]) ∧ Below W.heap.size W w' := by
  have q := sort_any ⟨0, 1, 0, false, false, false, false⟩ false [] none 0 0 W (Pa.tx_nil W) (by decide) (fun _ s h => by simp at h)
  refine q.mono fun e w' h => ?_
  obtain ⟨v, rfl, o, b⟩ := h
  obtain ⟨a, c, rfl, t, _⟩ := own_tx o
  have hl : (sortA ⟨0, 1, 0, false, false, false, false⟩ false []).length = 0 := by
    have : sortA ⟨0, 1, 0, false, false, false, false⟩ false [] = [] := by unfold sortA; rw [if_neg (by decide +kernel)]
    rw [this]; rfl
  rw [hl, al_e3]
  exact ⟨a, c, rfl, b⟩
theorem a_r (W : World) : Calls Tryz.prog 71 #[.slice (some ⟨W.heap.size, 0, none⟩) 3 3, .int .i64 1, .int .i64 0] (W.alloc (.cells #[.string { data := #[49, 32, 120] }, .string { data := #[50, 32, 120] }, .string { data := #[51, 32, 121] }] 9)) fun e w' => ∃ g c, e = .returned (.slice (some ⟨g, 0, none⟩) 2 c) ∧ g < w'.heap.size ∧ w'.cell? ⟨g, 0, none⟩ = some (.string { data := #[49, 32, 120] }) ∧ w'.cell? ⟨g, 1, none⟩ = some (.int .i64 2) ∧ Below W.heap.size W w' := by
  have q := pruns_any [⟨#[49, 32, 120]⟩, ⟨#[50, 32, 120]⟩, ⟨#[51, 32, 121]⟩] (some ⟨W.heap.size, 0, none⟩) 3 3 1 0 _ (Pa.tx_lit W [⟨#[49, 32, 120]⟩, ⟨#[50, 32, 120]⟩, ⟨#[51, 32, 121]⟩] 9) (by decide) (fun s h => by simp at h; rcases h with rfl | rfl | rfl <;> decide) (by decide) (by decide)
    (fun s h t ht => ix_ascii t (fun c hc => by
      have hm := ht.subset hc
      simp at h
      rcases h with rfl | rfl | rfl <;> (simp at hm; rcases hm with rfl | rfl | rfl <;> decide)) (by
      have hl := ht.length_le
      simp at h
      rcases h with rfl | rfl | rfl <;> (simp at hl; omega)))
  refine q.mono fun e w' h => ?_
  obtain ⟨v, rfl, o, b⟩ := h
  rw [al_r] at o
  rcases o.2 with ⟨_, hbad⟩ | ⟨g, c, cur, rfl, _⟩
  · simp at hbad
  · refine ⟨g, c, rfl, (o.lt g rfl).2, ?_, ?_, lit_below _ _ _ b⟩
    · exact (o.cellAt 0 (by decide)).trans (by rfl)
    · exact (o.cellAt 1 (by decide)).trans (by rfl)

theorem a_m (W : World) : Calls Tryz.prog 17 #[.slice (some ⟨W.heap.size, 0, none⟩) 3 3, .slice (some ⟨W.heap.size + 1, 0, none⟩) 3 3] ((W.alloc (.cells #[.string { data := #[97] }, .string { data := #[98] }, .string { data := #[100] }] 9)).alloc (.cells #[.string { data := #[98] }, .string { data := #[99] }, .string { data := #[100] }] 9)) fun e w' => ∃ d1 e1 d2 e2 d3 e3, e = .returned (.tuple #[.slice d1 1 e1, .slice d2 1 e2, .slice d3 2 e3]) ∧ Below W.heap.size W w' := by
  have b0 : Below (W.alloc (.cells #[.string { data := #[97] }, .string { data := #[98] }, .string { data := #[100] }] 9)).heap.size (W.alloc (.cells #[.string { data := #[97] }, .string { data := #[98] }, .string { data := #[100] }] 9)) ((W.alloc (.cells #[.string { data := #[97] }, .string { data := #[98] }, .string { data := #[100] }] 9)).alloc (.cells #[.string { data := #[98] }, .string { data := #[99] }, .string { data := #[100] }] 9)) := (Below.refl _ _).alloc (Nat.le_refl _) _
  have t1 := (Pa.tx_lit W [⟨#[97]⟩, ⟨#[98]⟩, ⟨#[100]⟩] 9).below b0
  have t2 := Pa.tx_lit (W.alloc (.cells #[.string { data := #[97] }, .string { data := #[98] }, .string { data := #[100] }] 9)) [⟨#[98]⟩, ⟨#[99]⟩, ⟨#[100]⟩] 9
  rw [World.size_alloc] at t2
  have q := pcomm_any [⟨#[97]⟩, ⟨#[98]⟩, ⟨#[100]⟩] [⟨#[98]⟩, ⟨#[99]⟩, ⟨#[100]⟩] (some ⟨W.heap.size, 0, none⟩) (some ⟨W.heap.size + 1, 0, none⟩) 3 3 3 3 _ t1 t2 (by decide) (by decide) (by decide)
  refine q.mono fun e w' h => ?_
  obtain ⟨v1, v2, v3, rfl, r, b⟩ := h
  obtain ⟨d1, e1, rfl, _⟩ := own_tx r.o1
  obtain ⟨d2, e2, rfl, _⟩ := own_tx r.o2
  obtain ⟨d3, e3, rfl, _⟩ := own_tx r.o3
  obtain ⟨m1, m2, m3⟩ := al_m
  rw [m1, m2, m3]
  exact ⟨d1, e1, d2, e2, d3, e3, rfl, lit_below _ _ _ (b0.trans (b.mono (by simp)))⟩

theorem a_c (W : World) : Calls Tryz.prog 22 #[.agg #[.bool false, .bool false, .bool false, .bool false, .int .i64 0, .int .i64 0, .int .u8 0], .slice (some ⟨W.heap.size, 0, none⟩) 3 3, .bool false] (W.alloc (.cells #[.string { data := #[97] }, .string { data := #[98] }, .string { data := #[97] }] 9)) fun e w' => e = .returned (.int .i64 2) ∧ Below W.heap.size W w' := by
  have q := check_anyS ⟨0, 0, 0, false, false, false, false⟩ false [⟨#[97]⟩, ⟨#[98]⟩, ⟨#[97]⟩] (some ⟨W.heap.size, 0, none⟩) 3 3 _ (Pa.tx_lit W [⟨#[97]⟩, ⟨#[98]⟩, ⟨#[97]⟩] 9) (by decide) (fun s h => by simp at h; rcases h with rfl | rfl | rfl <;> decide)
  refine q.mono fun e w' h => ⟨?_, lit_below _ _ _ h.2⟩
  rw [h.1, al_c]
theorem a_t (L : Ls) (a : Option Addr) (c : Nat) (W : World) (hn : L.length ≤ 4611686018427387904) (h : Tx W a L.length c L) : Calls Tryz.prog 9 #[.slice a L.length c, .slice (some ⟨W.heap.size, 0, none⟩) L.length L.length] (W.alloc (.cells (L.map Value.string).toArray 9)) fun e w' => e = .returned (.bool true) ∧ Below W.heap.size W w' := by
  have q := Pa.sameTexts_any a (some ⟨W.heap.size, 0, none⟩) L.length c L.length c L.length L (W.alloc (.cells (L.map Value.string).toArray 9)) hn (h.below ((Below.refl _ _).alloc (Nat.le_refl _) _)) (Pa.tx_lit W L 9)
  exact q.mono fun e w' h => ⟨h.1, lit_below _ _ _ h.2⟩

set_option maxRecDepth 100000 in
set_option maxHeartbeats 1000000 in
theorem alive_anyS (w : World) : Calls Tryz.prog 14 #[] w fun e w' => e = .returned (.bool true) ∧ Below w.heap.size w w' := by
  go_enter Tryz.func14, Tryz.ntmps14
  go_wp2_with fail
  refine (a_s1 _).mono ?_
  rintro e w1 ⟨a1, c1, rfl, t1, b1⟩
  have T1 := hide t1
  have B1 := hide b1
  clear t1 b1
  go_wp2_with fail
  refine (a_s2 _).mono ?_
  rintro e w2 ⟨a2, c2, rfl, t2, b2⟩
  have T12 := hide ((unhide T1).below b2)
  have T2 := hide t2
  have B2 := hide ((unhide B1).trans (b2.mono (unhide B1).size))
  clear t2 b2 T1 B1
  go_wp2_with fail
  refine (a_s3 _).mono ?_
  rintro e w3 ⟨a3, c3, rfl, b3⟩
  have T13 := hide ((unhide T12).below b3)
  have T23 := hide ((unhide T2).below b3)
  have B3 := hide ((unhide B2).trans (b3.mono (unhide B2).size))
  clear b3 T12 T2 B2
  go_wp2_with fail
  refine (a_r _).mono ?_
  rintro e w4 ⟨g4, c4, rfl, z4, r40, r41, b4⟩
  have T14 := hide ((unhide T13).below b4)
  have T24 := hide ((unhide T23).below b4)
  have B4 := hide ((unhide B3).trans (b4.mono (unhide B3).size))
  have R4 := hide (And.intro z4 (And.intro r40 r41))
  clear b4 T13 T23 B3 z4 r40 r41
  go_wp2_with fail
  refine (a_m _).mono ?_
  rintro e w5 ⟨d1, e1, d2, e2, d3, e3, rfl, b5⟩
  have T15 := hide ((unhide T14).below b5)
  have T25 := hide ((unhide T24).below b5)
  have B5 := hide ((unhide B4).trans (b5.mono (unhide B4).size))
  have R5 : Hid (g4 < w5.heap.size ∧ w5.cell? ⟨g4, 0, none⟩ = some (.string { data := #[49, 32, 120] }) ∧ w5.cell? ⟨g4, 1, none⟩ = some (.int .i64 2)) := ⟨Nat.lt_of_lt_of_le (unhide R4).1 b5.size, (b5.cell (p := ⟨g4, 0, none⟩) (unhide R4).1).trans (unhide R4).2.1, (b5.cell (p := ⟨g4, 1, none⟩) (unhide R4).1).trans (unhide R4).2.2⟩
  clear b5 T14 T24 B4 R4
  have R5K : Hid (∀ W, Below w5.heap.size w5 W → (g4 < W.heap.size ∧ W.cell? ⟨g4, 0, none⟩ = some (.string { data := #[49, 32, 120] }) ∧ W.cell? ⟨g4, 1, none⟩ = some (.int .i64 2))) := fun W b => ⟨Nat.lt_of_lt_of_le (unhide R5).1 b.size, (b.cell (p := ⟨g4, 0, none⟩) (unhide R5).1).trans (unhide R5).2.1, (b.cell (p := ⟨g4, 1, none⟩) (unhide R5).1).trans (unhide R5).2.2⟩
  have K1 := hide (a_t [⟨#[48, 57]⟩, ⟨#[57]⟩, ⟨#[57]⟩, ⟨#[49, 48]⟩] a1 c1 w5 (by decide) (unhide T15))
  simp only [List.length_cons, List.length_nil, List.map_cons, List.map_nil, Nat.reduceAdd] at K1
  go_wp2_with fail
  refine (unhide K1).mono ?_
  rintro e w6 ⟨rfl, b6⟩
  have K2 := hide (a_t [⟨#[57]⟩, ⟨#[49, 48]⟩] a2 c2 w6 (by decide) ((unhide T25).below b6))
  simp only [List.length_cons, List.length_nil, List.map_cons, List.map_nil, Nat.reduceAdd] at K2
  have b56 := hide b6
  clear b6 K1 T15 T25 R5
  go_wp2_with fail
  refine (unhide K2).mono ?_
  rintro e w7 ⟨rfl, b7⟩
  have b57 := hide ((unhide b56).trans (b7.mono (unhide b56).size))
  clear b7 K2 b56
  go_wp2_with fail
  refine (a_c _).mono ?_
  rintro e w8 ⟨rfl, b8⟩
  have b58 := (unhide b57).trans (b8.mono (unhide b57).size)
  obtain ⟨z8, r0, r1⟩ := unhide R5K w8 b58
  have B8 := hide ((unhide B5).trans (b58.mono (unhide B5).size))
  clear b8 b57 b58 R5K B5
  go_wp2_with fail
  go_ret
  exact ⟨rfl, unhide B8⟩
end Go.Proofs.YtmpppdbomdepoaaGreatDoor.So
