/- The law ModesAgain: walked. -/
import Derived.Test.YtijknodbaddelaaDoorMoAlive
import Derived.Test.YtijknodbaddelaaDoorMoFacts
import Derived.Deep.RegionHeld3
import Derived.Deep.RegionLaw
namespace Go.Proofs.YtijknodbaddelaaDoor.Mo
open Go.RowKit Go.Shelf

theorem step_append_own {P : Program} {ops : Array Oper} {o : Oper} {a : Act} {w : World} {K : Act → World → Prop} {Q : Exit → Act → World → Prop} {E : Prop} (hgd : o.guard = none) (s x : Operand) (t : TypeId)
    (ho : o.op = .call { callee := .builtin .append, args := #[s, x], argTypes := #[t, t] })
    (base : Nat) (e : TypeId) (i : TypeInfo) (z : Value) (size bytes : Nat) (ht : P.underlying t = some (.slice e)) (hi : P.info? e = some i) (hz : i.zero = some z)
    (hsize : i.size = size) (hby : i.bytes = bytes) (hzs : z.cells.size = size) (hsz : 0 < size)
    (v : Value) (n : Nat) (xs : List Value) (hs : a.eval s = v) (hown : w.ownsRow base e size v n xs)
    (ad : Addr) (m c : Nat) (news : List Value) (hx : a.eval x = .slice (some ad) m c) (hl : news.length = m * size) (hnews : ∀ j u, news[j]? = some u → w.cell? (ad.add j) = some u) (h1 : ∀ u ∈ news, u.oneCell' = true)
    (h63 : n + m ≤ maxLen) (hbytes : (n + m) * bytes ≤ 140737488355328) (hbase : base ≤ w.heap.size)
    (h : ∀ v' w', w'.ownsRow base e size v' (n + m) (xs ++ news) → w.grownBy w' v.ownBlock → K (a.put o.dst v') w') :
    if Region.wanted o (yielded ops a.tmps) = true then Oper.wp P o a w K Q else E := by
  have hw : Region.wanted o (yielded ops a.tmps) = true := by simp [Region.wanted, hgd]
  rw [if_pos hw]
  exact wp_append_own w s x t ho base e i z size bytes ht hi hz hsize hby hzs hsz v n xs hs hown ad m c news hx hl hnews h1 h63 hbytes hbase fun v' w' h2 h3 _ => h v' w' h2 h3
theorem own_shape {w : World} {base : Nat} {e : TypeId} {s : Nat} {v : Value} {n : Nat} {xs : List Value} (h : w.ownsRow base e s v n xs) : ∃ a cap, v = .slice a n cap := by
  rcases h.2 with ⟨rfl, rfl⟩ | ⟨g, cap, cur, rfl, _⟩
  · exact ⟨none, 0, rfl⟩
  · exact ⟨_, cap, rfl⟩
theorem dup_take (cs : List Ch) (k : Nat) (h : k < cs.length) : dup (cs.take (k + 1)) = dup (cs.take k) ++ [cs.getD k cz, cs.getD k cz] := by
  rw [take_at cs k h]; simp [dup]
theorem dup_len (cs : List Ch) : (dup cs).length = 2 * cs.length := by
  induction cs with
  | nil => rfl
  | cons c l ih => simp [dup] at ih ⊢; omega
theorem ten_new (w : World) (c : Ch) (e : TypeId) : ∀ j u, (cl [c, c])[j]? = some u → (w.alloc (.cells (cl [c, c]).toArray e)).cell? ((⟨w.heap.size, 0, none⟩ : Addr).add j) = some u := by
  intro j u hj
  rw [add_none, cell_of_row _ _ _ _ _ _ (heap_alloc_new w _), Nat.zero_add]
  simpa using hj
set_option maxHeartbeats 1000000 in
set_option maxRecDepth 100000 in
theorem again_walk (a : Option Addr) (len cap : Nat) (cs : List Ch) (mode mask : Int) (dir : Bool) (w : World) (h : Cg w a len cap cs) (hlen : len ≤ 4611686018427387904) :
    Calls Tryd.prog 5 #[.slice a len cap, .agg #[.int .i64 mode, .int .i64 mask, .bool dir]] w fun e w' => e = .returned (.bool true) ∧ Below w.heap.size w w' := by
  obtain ⟨i0, hi0, hz0, hz1, hz2⟩ := info_parts Tryd.infoCh
  obtain ⟨W0, HW0⟩ : ∃ W, Hid (W = w.alloc (.cells #[.int .i64 mode, .int .i64 mask, .bool dir] 23)) := ⟨_, rfl⟩
  have HB0 : Hid (Below w.heap.size w W0) := by rw [unhide HW0]; exact (Below.refl _ _).alloc (Nat.le_refl _) _
  have hzW : w.heap.size < W0.heap.size := by rw [unhide HW0]; simp
  have HX : Hid (∀ W, Below W0.heap.size W0 W → W.cell? ⟨w.heap.size, 0, none⟩ = some (.int .i64 mode) ∧ W.cell? ⟨w.heap.size, 1, none⟩ = some (.int .i64 mask) ∧ W.cell? ⟨w.heap.size, 2, none⟩ = some (.bool dir)) := fun W hb =>
    ⟨(hb.cell (p := ⟨w.heap.size, 0, none⟩) hzW).trans (by rw [unhide HW0]; simp), (hb.cell (p := ⟨w.heap.size, 1, none⟩) hzW).trans (by rw [unhide HW0]; simp), (hb.cell (p := ⟨w.heap.size, 2, none⟩) hzW).trans (by rw [unhide HW0]; simp)⟩
  have HC0 := hide (h.below (unhide HB0))
  have HL : Hid (cs.length = len) := h.len
  have C5 := hide (fun W => alive_any W)
  clear h
  by_cases hb5 : 5000 < (len : Int)
  · go_enter Tryd.func5, Tryd.ntmps5
    go_wp2_with fail
    rw [← unhide HW0]
    clear HW0
    refine (unhide C5 _).mono ?_
    rintro e w1 ⟨rfl, hb⟩
    have B1 := hide hb
    clear hb
    go_wp2_with fail
    refine (unhide C5 _).mono ?_
    rintro e w2 ⟨rfl, hb⟩
    have B2 := hide ((unhide B1).trans (hb.mono (unhide B1).size))
    clear hb C5 B1
    go_wp2_with fail
    go_ret
    exact ⟨rfl, (unhide HB0).trans ((unhide B2).mono (unhide HB0).size)⟩
  · go_enter Tryd.func5, Tryd.ntmps5
    go_wp2_with fail
    rw [← unhide HW0]
    clear HW0
    refine (unhide C5 _).mono ?_
    rintro e w1 ⟨rfl, hb⟩
    have B1 := hide hb
    have HC1 := hide ((unhide HC0).below hb)
    have hz1w : W0.heap.size ≤ w1.heap.size := hb.size
    clear hb C5
    go_wp2_with fail
    go_loopw [5, 6] (fun v i wr => ∃ (k : Nat) (av : Option Addr) (cv : Nat), v = .slice av (2 * k) cv ∧ k ≤ len ∧ i = .int .i64 k ∧ Hid (∀ c ∈ cs.take k, c.cp ≠ 117 ∧ c.cp ≠ 103 ∧ c.cp ≠ 111) ∧ Hid (wr.ownsRow w1.heap.size 35 5 (.slice av (2 * k) cv) (2 * k) (cl (dup (cs.take k)))) ∧ Hid (Below w1.heap.size w1 wr)) (fun _ i _ => len - (intOf i).toNat)
    case atStart => exact ⟨0, none, 0, rfl, Nat.zero_le _, rfl, by intro c hc; simp at hc, World.ownsRow_nil _ _ _ _, Below.refl _ _⟩
    case round =>
      obtain ⟨k, av, cv, rfl, hk, rfl, HP, HO, HB⟩ := hrel
      have hsz := (unhide HB).size
      by_cases hlt : k < len
      · have hlt' : (k : Int) < (len : Int) := by omega
        have hcells := (unhide HC1).cells
        rcases hcells with h0 | ⟨b, off, hae, hbl, hcc⟩
        · omega
        · subst hae
          have hc := (hcc k hlt).of fun o => (unhide HB).cell (p := ⟨b, o, none⟩) hbl
          have hc0 := hc.c0
          have hc1 := hc.c1
          have hc2 := hc.c2
          have hc3 := hc.c3
          have hc4 := hc.c4
          have hbl2 : b < wr.heap.size := by omega
          have hkl : k < cs.length := by rw [unhide HL]; exact hlt
          have htk := hide (take_at cs k hkl)
          have hdt := hide (dup_take cs k hkl)
          obtain ⟨c, hce⟩ : ∃ c, c = cs.getD k cz := ⟨_, rfl⟩
          rw [← hce] at hc0 hc1 hc2 hc3 hc4 htk hdt
          clear hce hc hcc hkl
          obtain ⟨who, op, bts, cp, dirs⟩ := c
          simp only at hc0 hc1 hc2 hc3 hc4
          have HBB : Hid (Below w.heap.size w wr) := (unhide HB0).trans (((unhide B1).trans ((unhide HB).mono (by omega))).mono (unhide HB0).size)
          by_cases h1 : cp = 117
          · have t1 : (((cp.toNat : Nat) : Int) == 117) = true := by rw [h1]; rfl
            clear h1
            go_wp2_with fail
            go_ret
            exact ⟨rfl, unhide HBB⟩
          · have t1 : (((cp.toNat : Nat) : Int) == 117) = false := by
              cases hh : (((cp.toNat : Nat) : Int) == 117)
              · rfl
              · exact absurd (ceq (d := 117) hh) h1
            by_cases h2 : cp = 103
            · have t2 : (((cp.toNat : Nat) : Int) == 103) = true := by rw [h2]; rfl
              clear h1 h2
              go_wp2_with fail
              go_ret
              exact ⟨rfl, unhide HBB⟩
            · have t2 : (((cp.toNat : Nat) : Int) == 103) = false := by
                cases hh : (((cp.toNat : Nat) : Int) == 103)
                · rfl
                · exact absurd (ceq (d := 103) hh) h2
              by_cases h3 : cp = 111
              · have t3 : (((cp.toNat : Nat) : Int) == 111) = true := by rw [h3]; rfl
                clear h1 h2 h3
                go_wp2_with fail
                go_ret
                exact ⟨rfl, unhide HBB⟩
              · have t3 : (((cp.toNat : Nat) : Int) == 111) = false := by
                  cases hh : (((cp.toNat : Nat) : Int) == 111)
                  · rfl
                  · exact absurd (ceq (d := 111) hh) h3
                have HP2 : Hid (∀ c ∈ cs.take (k + 1), c.cp ≠ 117 ∧ c.cp ≠ 103 ∧ c.cp ≠ 111) := by
                  rw [unhide htk]
                  intro c hc
                  rcases List.mem_append.1 hc with h | h
                  · exact unhide HP c h
                  · simp at h; subst h; exact ⟨h1, h2, h3⟩
                clear h1 h2 h3 htk HP HBB
                have hO2k : 2 * k + 2 ≤ 100000 := by omega
                go_wp2_with fail
                go_region_law (refine step_append_own rfl (.tmp 43) (.tmp 52) 33 rfl w1.heap.size 35 i0 _ 5 32 Tryd.underlying33 hi0 hz0 hz1 hz2 rfl (by decide) (.slice av (2 * k) cv) (2 * k) (cl (dup (cs.take k))) (by simp [Act.eval]) (by exact ((unhide HO).alloc _)) ⟨wr.heap.size, 0, none⟩ 2 2 (cl [⟨who, op, bts, cp, dirs⟩, ⟨who, op, bts, cp, dirs⟩]) (by simp [Act.eval]) rfl (by exact ten_new _ _ _) (cl_one _) (by unfold maxLen; omega) (by omega) (by simp; omega) ?_; intro v1 w2 hown2 hg2; obtain ⟨va, vc, rfl⟩ := own_shape hown2; have HO2 := hide hown2; have HG2 := hide hg2; clear hown2 hg2)
                all_goals
                  have hB2 : Hid (Below w1.heap.size w1 w2) := ((below_drew1 ((unhide HB).alloc hsz _)).grown (unhide HG2) (by show _ ≤ (World.alloc _ _).heap.size; simp; omega) (fun j hj => ((unhide HO).lt j hj).1))
                  have hO2 : Hid (w2.ownsRow w1.heap.size 35 5 (.slice va (2 * (k + 1)) vc) (2 * (k + 1)) (cl (dup (cs.take (k + 1))))) := by
                    rw [unhide hdt, cl_app]; exact unhide HO2
                  clear HO2 HG2 HO HB hc0 hc1 hc2 hc3 hc4 hdt
                  go_wp2_with fail
                  go_roundw
                  case rel => exact ⟨k + 1, va, vc, rfl, by omega, by go_num, HP2, hO2, hB2⟩
                  case measure => simp [intOf]; omega
      · obtain rfl : k = len := by omega
        have hfull : cs.take k = cs := List.take_of_length_le (by rw [unhide HL]; omega)
        rw [hfull] at HP HO
        clear hfull
        obtain ⟨g0, g1, g2⟩ := unhide HX wr ((unhide B1).trans ((unhide HB).mono hz1w))
        have HC2 := hide ((unhide HC1).below (unhide HB))
        have hdl : (dup cs).length = 2 * k := by rw [dup_len, unhide HL]
        have HO2 : Hid (wr.ownsRow w1.heap.size 35 5 (.slice av (2 * k) cv) (dup cs).length (cl (dup cs))) := by rw [hdl]; exact unhide HO
        obtain ⟨a', c', hv', hCg⟩ := cg_of_owns (unhide HO2)
        simp at hv'
        obtain ⟨rfl, h2k, rfl⟩ := hv'
        clear h2k
        rw [hdl] at hCg
        have HCg := hide hCg
        have HBB : Hid (Below w.heap.size w wr) := (unhide HB0).trans (((unhide B1).trans ((unhide HB).mono (by omega))).mono (unhide HB0).size)
        have hwlt : w.heap.size < wr.heap.size := by omega
        obtain ⟨A, hA⟩ : ∃ A, A = applyP cs (m9 mode) mask dir := ⟨_, rfl⟩
        have hA2 := apply_dup cs (unhide HP) (m9 mode) mask dir (m9_lt _)
        have keep : ∀ {W w' : World}, (W.cell? ⟨w.heap.size, 0, none⟩ = some (.int .i64 mode) ∧ W.cell? ⟨w.heap.size, 1, none⟩ = some (.int .i64 mask) ∧ W.cell? ⟨w.heap.size, 2, none⟩ = some (.bool dir) ∧ Hid (Below wr.heap.size wr W)) → Below W.heap.size W w' →
            (w'.cell? ⟨w.heap.size, 0, none⟩ = some (.int .i64 mode) ∧ w'.cell? ⟨w.heap.size, 1, none⟩ = some (.int .i64 mask) ∧ w'.cell? ⟨w.heap.size, 2, none⟩ = some (.bool dir) ∧ Hid (Below wr.heap.size wr w')) := by
          rintro W w' ⟨q0, q1, q2, q3⟩ hb
          have hz : w.heap.size < W.heap.size := by have := (unhide q3).size; omega
          exact ⟨(hb.cell (p := ⟨w.heap.size, 0, none⟩) hz).trans q0, (hb.cell (p := ⟨w.heap.size, 1, none⟩) hz).trans q1, (hb.cell (p := ⟨w.heap.size, 2, none⟩) hz).trans q2, (unhide q3).trans (hb.mono (unhide q3).size)⟩
        have K1 : Hid (∀ W, (W.cell? ⟨w.heap.size, 0, none⟩ = some (.int .i64 mode) ∧ W.cell? ⟨w.heap.size, 1, none⟩ = some (.int .i64 mask) ∧ W.cell? ⟨w.heap.size, 2, none⟩ = some (.bool dir) ∧ Hid (Below wr.heap.size wr W)) →
            Calls Tryd.prog 11 #[.slice a k cap, .int .i64 mode, .int .i64 mask, .bool dir] W fun e w' => e = .returned (.int .i64 (A : Nat)) ∧ (w'.cell? ⟨w.heap.size, 0, none⟩ = some (.int .i64 mode) ∧ w'.cell? ⟨w.heap.size, 1, none⟩ = some (.int .i64 mask) ∧ w'.cell? ⟨w.heap.size, 2, none⟩ = some (.bool dir) ∧ Hid (Below wr.heap.size wr w'))) := fun W h => by
          rw [hA]
          exact (apply_any a k cap cap cs mode mask dir W ((unhide HC2).below (unhide h.2.2.2)) hlen).mono fun e w' h2 => ⟨h2.1, keep h h2.2⟩
        have K2 : Hid (∀ W, (W.cell? ⟨w.heap.size, 0, none⟩ = some (.int .i64 mode) ∧ W.cell? ⟨w.heap.size, 1, none⟩ = some (.int .i64 mask) ∧ W.cell? ⟨w.heap.size, 2, none⟩ = some (.bool dir) ∧ Hid (Below wr.heap.size wr W)) →
            Calls Tryd.prog 11 #[.slice av (2 * k) cv, .int .i64 mode, .int .i64 mask, .bool dir] W fun e w' => e = .returned (.int .i64 (A : Nat)) ∧ (w'.cell? ⟨w.heap.size, 0, none⟩ = some (.int .i64 mode) ∧ w'.cell? ⟨w.heap.size, 1, none⟩ = some (.int .i64 mask) ∧ w'.cell? ⟨w.heap.size, 2, none⟩ = some (.bool dir) ∧ Hid (Below wr.heap.size wr w'))) := fun W h => by
          rw [hA, ← hA2]
          exact (apply_any av (2 * k) cv cv (dup cs) mode mask dir W ((unhide HCg).below (unhide h.2.2.2)) (by omega)).mono fun e w' h2 => ⟨h2.1, keep h h2.2⟩
        have hS0 : wr.cell? ⟨w.heap.size, 0, none⟩ = some (.int .i64 mode) ∧ wr.cell? ⟨w.heap.size, 1, none⟩ = some (.int .i64 mask) ∧ wr.cell? ⟨w.heap.size, 2, none⟩ = some (.bool dir) ∧ Hid (Below wr.heap.size wr wr) := ⟨g0, g1, g2, Below.refl _ _⟩
        have hSd : wr.drew.cell? ⟨w.heap.size, 0, none⟩ = some (.int .i64 mode) ∧ wr.drew.cell? ⟨w.heap.size, 1, none⟩ = some (.int .i64 mask) ∧ wr.drew.cell? ⟨w.heap.size, 2, none⟩ = some (.bool dir) ∧ Hid (Below wr.heap.size wr wr.drew) := ⟨g0, g1, g2, (Below.refl _ _).drew⟩
        clear hA hA2 keep g0 g1 g2 HCg HC2 HO2 HO HP hdl hCg hb5
        go_wp2_with fail
        go_region_held3 (fun w' => w'.cell? ⟨w.heap.size, 0, none⟩ = some (.int .i64 mode) ∧ w'.cell? ⟨w.heap.size, 1, none⟩ = some (.int .i64 mask) ∧ w'.cell? ⟨w.heap.size, 2, none⟩ = some (.bool dir) ∧ Hid (Below wr.heap.size wr w')) (first | assumption | go_keep)
          (first | ((with_reducible refine (unhide K1 _ (by assumption)).mono ?_); rintro e w' ⟨rfl, hS1⟩) | ((with_reducible refine (unhide K2 _ (by assumption)).mono ?_); rintro e w' ⟨rfl, hS2⟩) | fail)
        go_wp2_with fail
        go_ret
        exact ⟨by first | rfl | simp, (unhide HBB).trans ((unhide hS2.2.2.2).mono (unhide HBB).size)⟩
end Go.Proofs.YtijknodbaddelaaDoor.Mo
