/- KeysTurns returns true, whatever the order and the lines. -/
import Derived.Test.YtfffhdbicldihaaDoorKyAlive
import Derived.Test.YtfffhdbicldihaaDoorKyRow
namespace Go.Proofs.YtfffhdbicldihaaDoor.Ky
open Go.RowKit Go.Shelf

attribute [local go_sem] Oper.semAt_some

set_option maxRecDepth 100000 in
set_option maxHeartbeats 400000 in
theorem keysTurns_any (o : Ord) (a b : ByteArray) (w : World) :
    Calls Tryd.prog 5 #[ov o, .string a, .string b] w fun e w' => e = .returned (.bool true) ∧ Below w.heap.size w w' := by
  have AL : Hid (∀ W, Calls Tryd.prog 15 #[] W fun e w' => e = .returned (.bool true) ∧ Below W.heap.size W w') := alive_any
  have p0 := hide (OR.new w o)
  have B0 : Hid (Below w.heap.size w (w.alloc (.cells #[.bool o.num, .bool o.fold, .bool o.bls, .bool o.rev, .int .i64 o.fr, .int .i64 o.to, .int .u8 (o.sep.toNat : Int)] 23))) := (Below.refl _ _).alloc (Nat.le_refl _) _
  by_cases hbig : (20000 : Int) < a.size ∨ ((a.size : Int) ≤ 20000 ∧ (20000 : Int) < b.size)
  · unfold ov
    rcases hbig with h1 | ⟨h1, h2⟩
    all_goals
      go_enter Tryd.func5, Tryd.ntmps5
      go_wp2_with fail
      refine (unhide AL _).mono ?_
      rintro e w1 ⟨rfl, b1⟩
      have B1 := hide ((unhide B0).trans (b1.mono (unhide B0).size))
      clear b1 p0 B0
      go_wp2_with fail
      refine (unhide AL _).mono ?_
      rintro e w2 ⟨rfl, b2⟩
      have B2 := hide ((unhide B1).trans (b2.mono (unhide B1).size))
      clear b2 B1
      go_wp2_with fail
      go_ret
      exact ⟨rfl, unhide B2⟩
  · have za : (a.size : Int) ≤ 20000 := by omega
    have zb : (b.size : Int) ≤ 20000 := by omega
    have ya : a.size ≤ 1073741824 := by omega
    have yb : b.size ≤ 1073741824 := by omega
    have C1 := hide (fun W => comp_any o a b W ya yb)
    have C2 := hide (fun W => comp_any o b a W yb ya)
    have C3 := hide (fun W => comp_any { o with rev := !o.rev } a b W ya yb)
    have C4 := hide (fun W => comp_any { o with rev := !o.rev } a a W ya ya)
    have hg := good_compare o
    have HX := hide (hg.rg a.data.toList b.data.toList)
    rw [hg.tn a.data.toList b.data.toList] at C2
    rw [compare_rev] at C3
    rw [(good_compare { o with rev := !o.rev }).self] at C4
    unfold ov at C1 C2 C3 C4 ⊢
    simp only at C3 C4
    generalize compare o a.data.toList b.data.toList = x at *
    clear hg hbig ya yb
    go_enter Tryd.func5, Tryd.ntmps5
    go_wp2_with fail
    refine (unhide AL _).mono ?_
    rintro e w1 ⟨rfl, b1⟩
    have p1 := hide ((unhide p0).below b1)
    have B1 := hide ((unhide B0).trans (b1.mono (unhide B0).size))
    clear b1 p0 B0 AL
    obtain ⟨u0, u1, u2, u3, u4, u5, u6⟩ := (unhide p1).cells
    go_wp2_with fail
    refine (unhide C1 _).mono ?_
    rintro e w2 ⟨rfl, b2⟩
    have p2 := hide ((unhide p1).below b2)
    have B2 := hide ((unhide B1).trans (b2.mono (unhide B1).size))
    clear b2 p1 B1 C1 u0 u1 u2 u3 u4 u5 u6
    obtain ⟨u0, u1, u2, u3, u4, u5, u6⟩ := (unhide p2).cells
    go_wp2_with fail
    refine (unhide C2 _).mono ?_
    rintro e w3 ⟨rfl, b3⟩
    have p3 := hide ((unhide p2).below b3)
    have B3 := hide ((unhide B2).trans (b3.mono (unhide B2).size))
    clear b3 p2 B2 C2 u0 u1 u2 u3 u4 u5 u6
    have p4 := hide ((unhide p3).rev (!o.rev))
    have B4 := hide ((unhide B3).setCell (p := ⟨w.heap.size, 3, none⟩) (Nat.le_refl _) (.bool (!o.rev)))
    obtain ⟨u0, u1, u2, u3, u4, u5, u6⟩ := (unhide p3).cells
    have fz : w3.frozen? ⟨w.heap.size, 3, none⟩ = false := (unhide p3).frozen 3
    have hX := unhide HX
    clear HX
    rcases hX with rfl | rfl | rfl
    all_goals
      go_wp2_with fail
      refine (unhide C3 _).mono ?_
      rintro e w4 ⟨rfl, b4⟩
      have p5 := hide ((unhide p4).below b4)
      have B5 := hide ((unhide B4).trans (b4.mono (unhide B4).size))
      clear b4 p3 p4 B3 B4 C3 u0 u1 u2 u3 u4 u5 u6 fz
      obtain ⟨u0, u1, u2, u3, u4, u5, u6⟩ := (unhide p5).cells
      simp only at u0 u1 u2 u3 u4 u5 u6
      go_wp2_with fail
      refine (unhide C4 _).mono ?_
      rintro e w5 ⟨rfl, b5⟩
      have B6 := hide ((unhide B5).trans (b5.mono (unhide B5).size))
      clear b5 p5 B5 C4 u0 u1 u2 u3 u4 u5 u6
      go_wp2_with fail
      go_ret
      exact ⟨rfl, unhide B6⟩
end Go.Proofs.YtfffhdbicldihaaDoor.Ky
