/- The chapter's walk; whether a tree and a path are more than is gone through. -/
import Derived.Test.YtbajjbgeohbdjaaWkWalk
import Derived.Test.YtbajjbgeohbdjaaWkSizes
import Derived.Test.YtbajjbgeohbdjaaTrNew
import Derived.Test.YtbajjbgeohbdjaaTrGreat
namespace Go.Proofs.Ytbajjbgeohbdjaa.Wk
open Go.RowKit Go.Proofs.Ytbajjbgeohbdjaa.Cu Go.Proofs.Ytbajjbgeohbdjaa.Tr Go.Proofs.Ytbajjbgeohbdjaa.Pm Go.Proofs.Ytbajjbgeohbdjaa.Pt

theorem stc_get (l : List Sp) (i : Nat) (h : i < l.length) : (stc l)[i * 4]? = some (.string (st l i).path) ∧ (stc l)[i * 4 + 1]? = some (.int .i64 (st l i).node) ∧ (stc l)[i * 4 + 2]? = some (.int .i64 (st l i).depth) ∧ (stc l)[i * 4 + 3]? = some (.bool (st l i).after) := by
  induction l generalizing i with
  | nil => simp at h
  | cons s l ih =>
    have e : stc (s :: l) = .string s.path :: .int .i64 s.node :: .int .i64 s.depth :: .bool s.after :: stc l := by simp [stc, sc]
    cases i with
    | zero => rw [e]; exact ⟨rfl, rfl, rfl, rfl⟩
    | succ i =>
      have := ih i (by simpa using h)
      have e1 : (i + 1) * 4 = i * 4 + 1 + 1 + 1 + 1 := by omega
      rw [e, e1]
      exact this
theorem sg_of_row {w : World} {B : Nat} {v : Value} {l : List Sp} (h : StR B v l w) : ∃ a c, v = .slice a l.length c ∧ Sg w a l.length c l := by
  rcases h.2 with ⟨hv, h0⟩ | ⟨g, cap, cur, rfl, _⟩
  · exact ⟨none, 0, by rw [hv, h0], rfl, .inl h0⟩
  · refine ⟨_, _, rfl, rfl, .inr ⟨g, 0, rfl, (h.lt g rfl).2, fun i hi => ?_⟩⟩
    obtain ⟨g0, g1, g2, g3⟩ := stc_get l i hi
    rw [Nat.zero_add]
    exact ⟨(h.cellAt (i * 4) (by omega)).trans g0, (h.cellAt (i * 4 + 1) (by omega)).trans g1, (h.cellAt (i * 4 + 2) (by omega)).trans g2, (h.cellAt (i * 4 + 3) (by omega)).trans g3⟩
abbrev e0 : Ev := ⟨0, 0, 0, 1⟩
abbrev pa : ByteArray := ⟨#[47, 97]⟩
abbrev pab : ByteArray := ⟨#[47, 97, 47, 98]⟩
abbrev sl1 : ByteArray := ⟨#[47]⟩
abbrev ex1 : List Sp := [⟨sl1, 1, 0, false⟩, ⟨pa, 2, 1, false⟩, ⟨pab, 3, 2, false⟩, ⟨pa, 2, 1, true⟩, ⟨sl1, 1, 0, true⟩]
abbrev ex2 : List Sp := [⟨⟨#[97]⟩, 2, 0, false⟩, ⟨⟨#[97]⟩, 2, 0, true⟩]
theorem walk_one : walkP 0 small e0 sl1 9 = (ex1, [], 0) := by kernel_rfl
theorem walk_two : walkP 0 small e0 ⟨#[97]⟩ 0 = (ex2, [], 0) := by kernel_rfl
theorem sizes_one : sizesP 0 small ex1 = [0, 0, 5, 5, 5] := by kernel_rfl
theorem sm_small : Sm small := sm_of_size (by decide +kernel)
theorem ok_small {s : Sp} (hp : s.path.size ≤ 1000) (h1 : 0 ≤ s.node) (h2 : s.node ≤ 1000) (h3 : 0 ≤ s.depth) (h4 : s.depth ≤ 1000) : Ok s := by
  refine ⟨by unfold maxLen; omega, ?_, ?_⟩
  · simp [Lit.wf, IntKind.min, IntKind.max, IntKind.signed, IntKind.bits]; omega
  · simp [Lit.wf, IntKind.min, IntKind.max, IntKind.signed, IntKind.bits]; omega
set_option maxRecDepth 100000 in
set_option maxHeartbeats 4000000 in
theorem lives_any (w : World) : Calls Try.prog 6 #[] w fun r w' => r = .returned (.bool true) ∧ Below w.heap.size w w' := by
  go_enter Try.func6, Try.ntmps6
  go_wp2_with fail
  refine (small_any _).mono ?_
  rintro r w1 ⟨⟨a, cap, rfl, hg⟩, b1⟩
  obtain ⟨W1, hW1⟩ : ∃ W1, W1 = w1.alloc (.cells #[.slice a 4 cap, .int .i64 0] 24) := ⟨_, rfl⟩
  have hb1 : Below w1.heap.size w1 W1 := by rw [hW1]; exact (Below.refl _ _).alloc (Nat.le_refl _) _
  have ht1 : W1.heap[w1.heap.size]? = some (.cells #[.slice a 4 cap, .int .i64 0] 24) := by rw [hW1]; exact heap_alloc_new _ _
  have c0 : W1.cell? ⟨w1.heap.size, 0, none⟩ = some (.slice a 4 cap) := by rw [cell_of_row _ _ _ _ _ _ ht1]; rfl
  have c1 : W1.cell? ⟨w1.heap.size, 1, none⟩ = some (.int .i64 0) := by rw [cell_of_row _ _ _ _ _ _ ht1]; rfl
  have HB1 := hide (b1.trans (hb1.mono b1.size))
  have HG := hide (hg.below hb1)
  have HT1 := hide ht1
  have HW := hide (fun W (h : Below W1.heap.size W1 W) (p : ByteArray) (hp : p.size ≤ 10) (d : Int) => walk_any 0 a 4 cap small e0 p d W ((unhide HG).below h) sm_small (by omega))
  have HW1 := hide (unhide HW W1 (Below.refl _ _) sl1 (by decide) 9)
  rw [walk_one] at HW1
  clear hg b1 hb1 ht1
  go_upto_region 2 with fail
  rw [← hW1]
  clear hW1
  go_wp2_with fail
  refine (unhide HW1).mono ?_
  rintro r w2 ⟨v1, v2, rfl, hr1, hr2, b2⟩
  obtain ⟨a1, k1, rfl, hs1⟩ := sg_of_row hr1
  obtain ⟨g2, k2, rfl⟩ : ∃ g c, v2 = .slice g 0 c := by
    rcases hr2.2 with ⟨h, _⟩ | ⟨g, c, _, h, _⟩
    · exact ⟨none, 0, h⟩
    · exact ⟨_, c, h⟩
  have ht2 := (b2.block _ (Array.getElem?_eq_some_iff.1 (unhide HT1)).1).trans (unhide HT1)
  have d0 : w2.cell? ⟨w1.heap.size, 0, none⟩ = some (.slice a 4 cap) := by rw [cell_of_row _ _ _ _ _ _ ht2]; rfl
  have d1 : w2.cell? ⟨w1.heap.size, 1, none⟩ = some (.int .i64 0) := by rw [cell_of_row _ _ _ _ _ _ ht2]; rfl
  have HB2 := hide b2
  have HT2 := hide ht2
  have HS1 := hide hs1
  have HW2 := hide (unhide HW w2 b2 ⟨#[97]⟩ (by decide) 0)
  rw [walk_two] at HW2
  clear hr1 hr2 b2 ht2 hs1 HW1 c0 c1 HT1
  go_wp2_with fail
  refine (unhide HW2).mono ?_
  rintro r w3 ⟨v3, v4, rfl, hr3, hr4, b3⟩
  obtain ⟨a3, k3, rfl, hs3⟩ := sg_of_row hr3
  obtain ⟨g4, k4, rfl⟩ : ∃ g c, v4 = .slice g 0 c := by
    rcases hr4.2 with ⟨h, _⟩ | ⟨g, c, _, h, _⟩
    · exact ⟨none, 0, h⟩
    · exact ⟨_, c, h⟩
  have ht3 := (b3.block _ (Array.getElem?_eq_some_iff.1 (unhide HT2)).1).trans (unhide HT2)
  have e0 : w3.cell? ⟨w1.heap.size, 0, none⟩ = some (.slice a 4 cap) := by rw [cell_of_row _ _ _ _ _ _ ht3]; rfl
  have e1 : w3.cell? ⟨w1.heap.size, 1, none⟩ = some (.int .i64 0) := by rw [cell_of_row _ _ _ _ _ _ ht3]; rfl
  have HB3 := hide ((unhide HB2).trans (b3.mono (unhide HB2).size))
  have HS3 := hide hs3
  have HS1' := hide ((unhide HS1).below b3)
  have HZ := hide (sizesW_any 0 a 4 cap small a1 5 k1 ex1 w3 ((unhide HG).below (unhide HB3)) sm_small (unhide HS1') (by decide) (fun s hs => by
    simp only [List.mem_cons, List.not_mem_nil, or_false] at hs
    rcases hs with rfl | rfl | rfl | rfl | rfl <;> exact ok_small (by decide) (by decide) (by decide) (by decide) (by decide)))
  rw [sizes_one] at HZ
  clear hr3 hr4 b3 ht3 hs3 HW2 d0 d1 HT2 HS1 HW HB2
  go_wp2_with fail
  refine (unhide HZ).mono ?_
  rintro r w4 ⟨z, rfl, hz, hz4, b4⟩
  have hB := hide ((unhide HB1).trans (((unhide HB3).trans (b4.mono (unhide HB3).size)).mono (unhide HB1).size))
  rcases ((unhide HS1').below b4).cells with h0 | ⟨b, off, rfl, hb, hc⟩
  · exact absurd h0 (by decide)
  rcases ((unhide HS3).below b4).cells with h0 | ⟨b', off', rfl, hb', hc'⟩
  · exact absurd h0 (by decide)
  have p2 := (hc 2 (by decide)).c0
  have q2 := (hc 2 (by decide)).c2
  have p3 := (hc 3 (by decide)).c3
  have p4 := (hc 4 (by decide)).c0
  have p1 := (hc' 1 (by decide)).c3
  have y1 : w4.cell? ⟨z, 1, none⟩ = some (.int .i64 0) := by rw [cell_of_row _ _ _ _ _ _ hz4]; rfl
  have y2 : w4.cell? ⟨z, 2, none⟩ = some (.int .i64 5) := by rw [cell_of_row _ _ _ _ _ _ hz4]; rfl
  have y3 : w4.cell? ⟨z, 3, none⟩ = some (.int .i64 5) := by rw [cell_of_row _ _ _ _ _ _ hz4]; rfl
  have y4 : w4.cell? ⟨z, 4, none⟩ = some (.int .i64 5) := by rw [cell_of_row _ _ _ _ _ _ hz4]; rfl
  have x2 : w4.cell? ⟨b, off + 8, none⟩ = some (.string pab) := p2
  have x2' : w4.cell? ⟨b, off + 8 + 2, none⟩ = some (.int .i64 2) := q2
  have x3 : w4.cell? ⟨b, off + 12 + 3, none⟩ = some (.bool true) := p3
  have x4 : w4.cell? ⟨b, off + 16, none⟩ = some (.string sl1) := p4
  have x1 : w4.cell? ⟨b', off' + 4 + 3, none⟩ = some (.bool true) := p1
  clear hc hc' p1 p2 p3 p4 q2 HZ HS1' HS3 hz4 b4 HG HB1 HB3 e0 e1
  go_wp2
  go_ret
  exact ⟨rfl, unhide hB⟩
end Go.Proofs.Ytbajjbgeohbdjaa.Wk
