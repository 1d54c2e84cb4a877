/- The law ModesOne: walked. -/
import Derived.Test.YtijknodbaddelabDoorMoAlive
import Derived.Test.YtijknodbaddelabDoorMoFacts
import Derived.Test.YtijknodbaddelabDoorBeyond2
import Derived.Laws.AppendOwnNone
namespace Go.Proofs.YtijknodbaddelabDoor.Mo
open Go.RowKit Go.Shelf

/-- 'append(v, xs...)', v the call's own, xs nil or not -/
theorem wpList_append_onto {P : Program} {w : World} {ops : Array Oper} {rest : List Oper} {o : Oper} {a : Act} {Q : Exit → Act → World → Prop} (hgd : o.guard = none) (s x : Operand) (t : TypeId)
    (ho : o.op = .call { callee := .builtin .append, args := #[s, x], argTypes := #[t, t] })
    (base : Nat) (e : TypeId) (i : TypeInfo) (z : Value) (size bytes : Nat) (ht : P.underlying t = some (.slice e)) (hi : P.info? e = some i) (hz : i.zero = some z)
    (hsize : i.size = size) (hby : i.bytes = bytes) (hzs : z.cells.size = size) (hsz : 0 < size)
    (v : Value) (n : Nat) (xs : List Value) (hs : a.eval s = v) (hown : w.ownsRow base e size v n xs)
    (ao : Option Addr) (m c : Nat) (news : List Value) (hx : a.eval x = .slice ao m c) (hnone : ao = none → m = 0 ∧ c = 0) (hl : news.length = m * size)
    (hnews : ∀ ad, ao = some ad → ∀ j u, news[j]? = some u → w.cell? (ad.add j) = some u) (h1 : ∀ u ∈ news, u.oneCell' = true)
    (h63 : n + m ≤ maxLen) (hbytes : (n + m) * bytes ≤ 140737488355328) (hbase : base ≤ w.heap.size)
    (h : ∀ v' w', w'.ownsRow base e size v' (n + m) (xs ++ news) → w.grownBy w' v.ownBlock → wpList P ops Q rest (a.put o.dst v') w') : wpList P ops Q (o :: rest) a w := by
  cases ao with
  | none =>
    obtain ⟨rfl, rfl⟩ := hnone rfl
    have : news = [] := List.eq_nil_of_length_eq_zero (by omega)
    subst this
    exact wpList_append_own_none hgd s x t ho base e i size ht hi v n xs hs hown hx (h _ _ (by simpa using hown) (World.grownBy.refl _ _))
  | some ad =>
    refine wpList_append_own w hgd s x t ho base e i z size bytes ht hi hz hsize hby hzs hsz v n xs hs hown ad m c news hx hl (hnews ad rfl) h1 h63 hbytes hbase ?_
    intro v' w' hown hgrow _
    exact h v' w' hown hgrow

theorem Cg.news {w : World} {a : Option Addr} {n cap : Nat} {cs : List Ch} (h : Cg w a n cap cs) : ∀ ad, a = some ad → ∀ j u, (cl cs)[j]? = some u → w.cell? (ad.add j) = some u := by
  intro ad ha j u hj
  have hjl := (List.getElem?_eq_some_iff.1 hj).1
  rw [cl_length, h.len] at hjl
  rcases h.cells with h0 | ⟨b, off, e, hlt, hc⟩
  · omega
  · rw [ha] at e
    cases e
    have hi : j / 5 < n := by omega
    have h5 := hc (j / 5) hi
    have hg := cl_get cs (j / 5) (j % 5) (by rw [h.len]; exact hi) (by omega)
    rw [show j / 5 * 5 + j % 5 = j by omega, hj] at hg
    rw [add_none]
    have hm : j % 5 = 0 ∨ j % 5 = 1 ∨ j % 5 = 2 ∨ j % 5 = 3 ∨ j % 5 = 4 := by omega
    rcases hm with e | e | e | e | e <;> rw [e] at hg
    · rw [show off + j = off + j / 5 * 5 by omega, h5.c0]; exact hg.symm
    · rw [show off + j = off + j / 5 * 5 + 1 by omega, h5.c1]; exact hg.symm
    · rw [show off + j = off + j / 5 * 5 + 2 by omega, h5.c2]; exact hg.symm
    · rw [show off + j = off + j / 5 * 5 + 3 by omega, h5.c3]; exact hg.symm
    · rw [show off + j = off + j / 5 * 5 + 4 by omega, h5.c4]; exact hg.symm
set_option maxHeartbeats 1000000 in
set_option maxRecDepth 100000 in
theorem one_walk (a b : Option Addr) (n cap m cbp : Nat) (cs ds : List Ch) (mode mask : Int) (dir : Bool) (w : World) (h : Cg w a n cap cs) (h' : Cg w b m cbp ds) (hn : n ≤ 4611686018427387904) (hm : m ≤ 4611686018427387904) :
    Calls Tryd.prog 3 #[.slice a n cap, .slice b m cbp, .agg #[.int .i64 mode, .int .i64 mask, .bool dir]] w fun e w' => e = .returned (.bool true) ∧ Below w.heap.size w w' := by
  obtain ⟨i0, hi0, hz0, hz1, hz2⟩ := info_parts Tryd.infoCh
  obtain ⟨W0, HW0⟩ : ∃ W, Hid (W = w.alloc (.cells #[.int .i64 mode, .int .i64 mask, .bool dir] 24)) := ⟨_, rfl⟩
  have HB0 : Hid (Below w.heap.size w W0) := by rw [unhide HW0]; exact (Below.refl _ _).alloc (Nat.le_refl _) _
  have hzW : w.heap.size < W0.heap.size := by rw [unhide HW0]; simp
  have HX : Hid (∀ W, Below W0.heap.size W0 W → W.cell? ⟨w.heap.size, 0, none⟩ = some (.int .i64 mode) ∧ W.cell? ⟨w.heap.size, 1, none⟩ = some (.int .i64 mask) ∧ W.cell? ⟨w.heap.size, 2, none⟩ = some (.bool dir)) := fun W hb =>
    ⟨(hb.cell (p := ⟨w.heap.size, 0, none⟩) hzW).trans (by rw [unhide HW0]; simp), (hb.cell (p := ⟨w.heap.size, 1, none⟩) hzW).trans (by rw [unhide HW0]; simp), (hb.cell (p := ⟨w.heap.size, 2, none⟩) hzW).trans (by rw [unhide HW0]; simp)⟩
  have HC := hide (h.below (unhide HB0))
  have HD := hide (h'.below (unhide HB0))
  have C5 := hide (fun W => alive_any W)
  have hcs := h.len
  have hds := h'.len
  have HCS := hide hcs
  have HDS := hide hds
  clear h h' hcs hds
  by_cases hb5 : 1048576 < (n : Int) + (m : Int)
  · go_enter Tryd.func3, Tryd.ntmps3
    go_wp2_with fail
    rw [← unhide HW0]
    clear HW0
    refine (unhide C5 _).mono ?_
    rintro e w1 ⟨rfl, hb⟩
    have B1 := hide hb
    clear hb
    go_wp2_with fail
    refine (Pa.beyond_two n m _ _ (by simp) (by simp) (by omega) (by omega) (by omega) (by omega)).mono ?_
    rintro e w2 ⟨rfl, hw2⟩
    have B2 : Hid (Below W0.heap.size W0 w2) := by rw [hw2]; exact (unhide B1).alloc (unhide B1).size _
    clear hw2 B1
    go_wp2_with fail
    refine (unhide C5 _).mono ?_
    rintro e w3 ⟨rfl, hb⟩
    have B3 := hide ((unhide B2).trans (hb.mono (unhide B2).size))
    clear hb C5 B2
    go_wp2_with fail
    go_ret
    exact ⟨rfl, (unhide HB0).trans ((unhide B3).mono (unhide HB0).size)⟩
  · have hz : (n : Int) + (m : Int) ≤ 1048576 := by omega
    have hdec : decide (1048576 < (n : Int) + (m : Int)) = false := by simp; omega
    go_enter Tryd.func3, Tryd.ntmps3
    go_wp2_with fail
    rw [← unhide HW0]
    clear HW0
    refine (unhide C5 _).mono ?_
    rintro e w1 ⟨rfl, hb⟩
    have B1 := hide hb
    clear hb C5
    go_wp2_with fail
    refine (Pa.beyond_two n m _ _ (by simp) (by simp) (by omega) (by omega) (by omega) (by omega)).mono ?_
    rintro e w2 ⟨rfl, hw2⟩
    have B2 : Hid (Below W0.heap.size W0 w2) := by rw [hw2]; exact (unhide B1).alloc (unhide B1).size _
    have HC2 := hide ((unhide HC).below (unhide B2))
    have HD2 := hide ((unhide HD).below (unhide B2))
    have hzw2 := (unhide B2).size
    clear hw2 B1 hb5
    go_wp2_with (at_builtin; refine wpList_append_onto rfl _ _ 22 rfl w2.heap.size 30 i0 _ 5 32 Tryd.underlying22 hi0 hz0 hz1 hz2 rfl (by decide) (.slice none 0 0) 0 [] rfl (World.ownsRow_nil _ _ _ _) a n cap (cl cs) rfl (unhide HC2).nil (by rw [cl_length, unhide HCS]) (unhide HC2).news (cl_one _) (by unfold maxLen; omega) (by omega) (Nat.le_refl _) ?_)
    intro v3 w3 hown3 hg3
    have hb3 : Below w2.heap.size w2 w3 := (Below.refl _ _).grown hg3 (Nat.le_refl _) (by simp [Value.ownBlock])
    have HC3 := hide ((unhide HC2).below hb3)
    have HD3 := hide ((unhide HD2).below hb3)
    have HO3 := hide hown3
    have B3 : Hid (Below W0.heap.size W0 w3) := (unhide B2).trans (hb3.mono hzw2)
    have hz3 := hb3.size
    obtain ⟨a3, c3, rfl⟩ : ∃ a3 c3, v3 = .slice a3 n c3 := by
      rcases hown3.2 with ⟨hv, h0⟩ | ⟨g, cap, cur, hv, _⟩
      · exact ⟨none, 0, by rw [hv, h0]⟩
      · exact ⟨_, _, hv⟩
    have HB23 := hide hb3
    clear hown3 hg3 hb3
    go_wp2_with (at_builtin; refine wpList_append_onto rfl _ _ 22 rfl w2.heap.size 30 i0 _ 5 32 Tryd.underlying22 hi0 hz0 hz1 hz2 rfl (by decide) (.slice a3 n c3) n (cl cs) rfl (unhide HO3) b m cbp (cl ds) rfl (unhide HD3).nil (by rw [cl_length, unhide HDS]) (unhide HD3).news (cl_one _) (by unfold maxLen; omega) (by omega) hz3 ?_)
    intro v4 w4 hown4 hg4
    have hb4 : Below w2.heap.size w2 w4 := (unhide HB23).grown hg4 hz3 (fun j hj => ((unhide HO3).lt j hj).1)
    have HC4 := hide ((unhide HC2).below hb4)
    have HD4 := hide ((unhide HD2).below hb4)
    have B4 : Hid (Below W0.heap.size W0 w4) := (unhide B2).trans (hb4.mono hzw2)
    have hnm : n + m = (cs ++ ds).length := by rw [List.length_append, unhide HCS, unhide HDS]
    have hown5 := hown4
    rw [hnm, ← cl_app] at hown5
    obtain ⟨a4, c4, hv4, hCg⟩ := cg_of_owns hown5
    rw [← hnm] at hv4 hCg
    subst hv4
    have HE4 := hide hCg
    obtain ⟨g0, g1, g2⟩ := unhide HX w4 (unhide B4)
    obtain ⟨A, HA⟩ : ∃ A, Hid (A = applyP cs (m9 mode) mask dir) := ⟨_, rfl⟩
    have hA5 : A < 512 := by rw [unhide HA]; exact applyP_lt _ _ _ _ (m9_lt _)
    obtain ⟨R, HR⟩ : ∃ R, Hid (R = applyP ds A mask dir) := ⟨_, rfl⟩
    have hR5 : R < 512 := by rw [unhide HR]; exact applyP_lt _ _ _ _ hA5
    have K1 := hide (apply_any a n cap cap cs mode mask dir w4 (unhide HC4) hn)
    rw [← unhide HA] at K1
    have hR0 : (0 : Int) ≤ (R : Int) := by omega
    have hR9 : (R : Int) ≤ 511 := by omega
    clear hown4 hg4 hb4 hown5 hCg HC2 HD2 HC3 HD3 HO3 HB23 B2 B3 HC HD hnm
    go_wp2_with fail
    refine (unhide K1).mono ?_
    rintro e w5 ⟨rfl, hb⟩
    have B5 := hide ((unhide B4).trans (hb.mono (unhide B4).size))
    have HD5 := hide ((unhide HD4).below hb)
    have HE5 := hide ((unhide HE4).below hb)
    clear hb K1 g0 g1 g2 HC4 HD4 HE4 B4
    obtain ⟨g0, g1, g2⟩ := unhide HX w5 (unhide B5)
    have K2 := hide (apply_any b m cbp cbp ds (A : Int) mask dir w5 (unhide HD5) hm)
    rw [m9_nat A hA5, ← unhide HR] at K2
    go_wp2_with fail
    refine (unhide K2).mono ?_
    rintro e w6 ⟨rfl, hb⟩
    have B6 := hide ((unhide B5).trans (hb.mono (unhide B5).size))
    have HE6 := hide ((unhide HE5).below hb)
    clear hb K2 g0 g1 g2 HD5 HE5 B5
    obtain ⟨g0, g1, g2⟩ := unhide HX w6 (unhide B6)
    have K3 := hide (apply_any a4 (n + m) c4 c4 (cs ++ ds) mode mask dir w6 (unhide HE6) (by omega))
    rw [applyP_app, ← unhide HA, ← unhide HR] at K3
    go_wp2_with fail
    refine (unhide K3).mono ?_
    rintro e w7 ⟨rfl, hb⟩
    have B7 := hide ((unhide B6).trans (hb.mono (unhide B6).size))
    clear hb K3 g0 g1 g2 HE6 B6
    go_wp2_with fail
    go_ret
    exact ⟨by first | rfl | simp, (unhide HB0).trans ((unhide B7).mono (unhide HB0).size)⟩
end Go.Proofs.YtijknodbaddelabDoor.Mo
