/- What the document's Runs answers. -/
import Derived.Test.YtmaenfcnkcaojaaDoorSoLeft
import Derived.Test.YtmaenfcnkcaojaaDoorSoRunsP
import Derived.Test.YtmaenfcnkcaojaaDoorSoMerge
import Derived.Deep.RegionHeld3
namespace Go.Proofs.YtmaenfcnkcaojaaDoor.So
open Go.RowKit Go.Shelf Ky
open Pa (Tx)

attribute [local go_sem] Oper.semAt_some

theorem Tryd.infoRun : (Tryd.prog.info? 33).map (fun i => (i.zero, i.size, i.bytes)) = some (some (.agg #[.string ByteArray.empty, .int .i64 0]), 2, 24) := by kernel_rfl
theorem two_new (w : World) (x y : Value) (e : TypeId) : ∀ j u, [x, y][j]? = some u → (w.alloc (.cells #[x, y] e)).cell? ((⟨w.heap.size, 0, none⟩ : Addr).add j) = some u := by
  intro j u hj
  match j, hj with
  | 0, hj => simp at hj; subst hj; simp [Addr.add]
  | 1, hj => simp at hj; subst hj; simp [Addr.add]
theorem two_one (s : ByteArray) (n : Int) : ∀ u ∈ [Value.string s, .int .i64 n], u.oneCell' = true := by
  intro u hu
  simp at hu
  rcases hu with rfl | rfl <;> rfl
set_option maxRecDepth 100000 in
set_option maxHeartbeats 1000000 in
theorem rruns_any (A : Ls) (a : Option Addr) (la ca : Nat) (f b : Int) (w : World) (hT : Tx w a la ca A) (hl : la ≤ 1048577) (hs : ∀ s ∈ A, s.size ≤ 1073741000) (hf : -9223372036854775808 ≤ f ∧ f ≤ 9223372036854775807) (hb : -9223372036854775808 ≤ b ∧ b ≤ 9223372036854775807) :
    Calls Tryd.prog 9 #[.slice a la ca, .int .i64 f, .int .i64 b] w fun e w' => ∃ v, e = .returned v ∧ w'.ownsRow w.heap.size 33 2 v (runsN f b A la).length (rcells (runsN f b A la)) ∧ Below w.heap.size w w' := by
  obtain ⟨i0, hi, hz0, hz1, hz2⟩ := info_parts Tryd.infoRun
  have hlen := hT.len
  have CL : Hid (∀ x, x ∈ A → ∀ W, Calls Tryd.prog 15 #[.string x, .int .i64 f, .int .i64 b] W fun e w' => e = .returned (.string (Ln.bt (lf f b x))) ∧ w' = W) := fun x hx W => rleft_any x f b W (hs x hx) hf hb
  have HT := hide hT
  have HL := hide hlen
  clear hT hs hlen hf hb
  go_enter Tryd.func9, Tryd.ntmps9
  go_wp2_with fail
  go_loopg [7, 8] la (fun g v7 v8 wr => ∃ (i : Nat) (O : Rs), i ≤ la ∧ g = la - i ∧ v8 = .int .i64 (i : Int) ∧ Hid (O = runsN f b A i) ∧ Hid (wr.ownsRow w.heap.size 33 2 v7 O.length (rcells O)) ∧ Hid (Below w.heap.size w wr))
  case atStart => exact ⟨0, [], Nat.zero_le _, rfl, rfl, rfl, World.ownsRow_nil _ _ _ _, Below.refl _ _⟩
  case round =>
    obtain ⟨i, O, hil, rfl, rfl, hU, hO, hBl⟩ := hrel
    obtain ⟨s0, s1, s2, hv0⟩ := sl_of_own (unhide hO)
    subst hv0
    have hOl : O.length ≤ i := by rw [unhide hU]; exact (runsN_len f b A i).1
    by_cases hlt : i < la
    · have hlt' : (i : Int) < (la : Int) := by omega
      have hiA : i < A.length := by rw [unhide HL]; exact hlt
      obtain ⟨g, off, hg0, hgl, ci⟩ := tx_at (unhide HT) hlt
      subst hg0
      have hyA := mem_at hiA
      by_cases h0 : i = 0
      · have hU2 : Hid (O ++ [(A.getD i ByteArray.empty, 1)] = runsN f b A (i + 1)) := by show _ = _; rw [unhide hU, h0]; rfl
        have c1 := ((unhide hBl).cell (p := ⟨g, off + i, none⟩) hgl).trans ci
        obtain ⟨y, hy⟩ : ∃ y, y = A.getD i ByteArray.empty := ⟨_, rfl⟩
        rw [← hy] at c1 hU2
        have hO2 := hide (unhide hO).drew
        have hB2 := hide (unhide hBl).drew
        have hsz := (unhide hBl).size
        obtain rfl : i = 0 := h0
        have c2 : wr.cell? ⟨g, off, none⟩ = some (.string y) := c1
        clear c1
        clear ci hy hyA
        go_wp2_with fail
        go_region
        go_wp2_with (at_builtin; refine wpList_append_own _ rfl _ _ 28 rfl w.heap.size 33 i0 _ 2 24 Tryd.underlying28 hi hz0 hz1 hz2 rfl (by decide) _ _ _ rfl ((unhide hO2).alloc _) ⟨wr.heap.size, 0, none⟩ 1 1 [.string y, .int .i64 1] rfl rfl (two_new _ _ _ _) (two_one _ _) (by unfold maxLen; omega) (by omega) (by simp; omega) ?_)
        intro v1 w4 hO1 hg1 _
        have hB1 : Hid (Below w.heap.size w w4) := ((unhide hB2).alloc hsz _).grown hg1 (by simp; omega) (fun z ez => ((unhide hO2).lt z ez).1)
        have hO3 : Hid (w4.ownsRow w.heap.size 33 2 v1 (O ++ [(y, 1)]).length (rcells (O ++ [(y, 1)]))) := by
          show w4.ownsRow _ _ _ _ _ _
          rw [rcells_snoc, List.length_append]
          exact hO1
        obtain ⟨y0, y1, y2, hv1⟩ := sl_of_own hO1
        subst hv1
        clear hO1 hg1 hO2 hB2
        go_wp2_with fail
        go_roundg (la - 1)
        case measure => omega
        case rel => exact ⟨1, _, by omega, rfl, by go_num, hU2, hO3, hB1⟩
      · obtain ⟨m, hm⟩ : ∃ m, m = i - 1 := ⟨_, rfl⟩
        have hm' : (i : Int) - 1 = (m : Int) := by omega
        have hw1 : IntKind.i64.wrap ((i : Int) - 1) = (m : Int) := by rw [IntKind.wrap_i64]; omega
        have hw2 : IntKind.i64.wrap (m : Int) = (m : Int) := by rw [IntKind.wrap_i64]; omega
        have mb : (0 : Int) ≤ (m : Int) := by omega
        have mb2 : (m : Int) < (la : Int) := by omega
        have h00 : (0 : Int) < (i : Int) := by omega
        have hn0 : 0 < i := by omega
        have hdec : decide (0 < i) = true := by simp; omega
        obtain ⟨g2, o2, e2, _, cm⟩ := tx_at (unhide HT) (show m < la by omega)
        obtain ⟨rfl, rfl⟩ : g = g2 ∧ off = o2 := by simpa using e2
        have hxA := mem_at (show m < A.length by omega)
        have hstep : runsN f b A (i + 1) = if lf f b (A.getD m ByteArray.empty) = lf f b (A.getD i ByteArray.empty) then bump O else O ++ [(A.getD i ByteArray.empty, 1)] := by
          rw [unhide hU, show i = m + 1 by omega]; rfl
        have hpos : 0 < O.length := by rw [unhide hU]; exact (runsN_len f b A i).2 (by omega)
        have hmax := runsN_max f b A i
        rw [← unhide hU] at hmax
        obtain ⟨y, hy⟩ : ∃ y, y = A.getD i ByteArray.empty := ⟨_, rfl⟩
        obtain ⟨x, hx⟩ : ∃ x, x = A.getD m ByteArray.empty := ⟨_, rfl⟩
        rw [← hy] at ci hyA hstep
        rw [← hx] at cm hxA hstep
        have CI := hide ci
        have CM := hide cm
        have SS : Hid (∀ W, Hid (W.ownsRow w.heap.size 33 2 (.slice s0 s1 s2) O.length (rcells O) ∧ Below w.heap.size w W) → W.cell? ⟨g, off + m, none⟩ = some (.string x) ∧ W.cell? ⟨g, off + i, none⟩ = some (.string y) ∧ Hid (W.ownsRow w.heap.size 33 2 (.slice s0 s1 s2) O.length (rcells O) ∧ Below w.heap.size w W)) := fun W h => ⟨((unhide h).2.cell (p := ⟨g, off + m, none⟩) hgl).trans (unhide CM), ((unhide h).2.cell (p := ⟨g, off + i, none⟩) hgl).trans (unhide CI), h⟩
        have K1 := unhide CL x hxA
        have K2 := unhide CL y hyA
        obtain ⟨X, hX⟩ : ∃ X, X = Ln.bt (lf f b x) := ⟨_, rfl⟩
        obtain ⟨Y, hY⟩ : ∃ Y, Y = Ln.bt (lf f b y) := ⟨_, rfl⟩
        rw [← hX] at K1
        rw [← hY] at K2
        have hXY : (lf f b x = lf f b y ∧ X = Y) ∨ (¬ lf f b x = lf f b y ∧ (X.toList == Y.toList) = false) := by
          by_cases h : lf f b x = lf f b y
          · left; exact ⟨h, by rw [hX, hY, h]⟩
          · right
            refine ⟨h, ?_⟩
            rw [ByteArray.toList_eq, ByteArray.toList_eq, hX, hY]
            show (lf f b x == lf f b y) = false
            simpa using h
        have KX : Hid (∀ W, W.cell? ⟨g, off + m, none⟩ = some (.string x) ∧ W.cell? ⟨g, off + i, none⟩ = some (.string y) ∧ Hid (W.ownsRow w.heap.size 33 2 (.slice s0 s1 s2) O.length (rcells O) ∧ Below w.heap.size w W) → Calls Tryd.prog 15 #[.string x, .int .i64 f, .int .i64 b] W fun e w' => e = .returned (.string X) ∧ w'.cell? ⟨g, off + m, none⟩ = some (.string x) ∧ w'.cell? ⟨g, off + i, none⟩ = some (.string y) ∧ Hid (w'.ownsRow w.heap.size 33 2 (.slice s0 s1 s2) O.length (rcells O) ∧ Below w.heap.size w w')) := fun W h => (K1 W).mono fun e w' q => ⟨q.1, by rw [q.2]; exact h⟩
        have KY : Hid (∀ W, W.cell? ⟨g, off + m, none⟩ = some (.string x) ∧ W.cell? ⟨g, off + i, none⟩ = some (.string y) ∧ Hid (W.ownsRow w.heap.size 33 2 (.slice s0 s1 s2) O.length (rcells O) ∧ Below w.heap.size w W) → Calls Tryd.prog 15 #[.string y, .int .i64 f, .int .i64 b] W fun e w' => e = .returned (.string Y) ∧ w'.cell? ⟨g, off + m, none⟩ = some (.string x) ∧ w'.cell? ⟨g, off + i, none⟩ = some (.string y) ∧ Hid (w'.ownsRow w.heap.size 33 2 (.slice s0 s1 s2) O.length (rcells O) ∧ Below w.heap.size w w')) := fun W h => (K2 W).mono fun e w' q => ⟨q.1, by rw [q.2]; exact h⟩
        have hS := unhide SS wr ⟨unhide hO, unhide hBl⟩
        have hSd := unhide SS wr.drew ⟨(unhide hO).drew, (unhide hBl).drew⟩
        have HSTEP := hide hstep
        have HMAX := hide hmax
        clear K1 K2 SS hX hY hx hy hm e2 cm ci hstep hmax hO hBl CL hU
        have HXY := hide hXY
        clear hXY
        go_wp2_with fail
        go_region_held3 (fun w' => w'.cell? ⟨g, off + m, none⟩ = some (.string x) ∧ w'.cell? ⟨g, off + i, none⟩ = some (.string y) ∧ Hid (w'.ownsRow w.heap.size 33 2 (.slice s0 s1 s2) O.length (rcells O) ∧ Below w.heap.size w w')) (first | assumption | go_keep)
          (first | (with_reducible refine (unhide KX _ (by assumption)).mono ?_; rintro e w' ⟨rfl, hS1⟩) | (with_reducible refine (unhide KY _ (by assumption)).mono ?_; rintro e w' ⟨rfl, hS2⟩))
        obtain ⟨cx, cy, hSt⟩ := hS2
        have hO2 := hide (unhide hSt).1
        have hB2 := hide (unhide hSt).2
        have hsz := (unhide hSt).2.size
        have hXY := unhide HXY
        clear hS hSd hS1 KX KY hSt HXY cx
        rcases hXY with ⟨hxy, rfl⟩ | ⟨hxy, hne⟩
        · have hst := unhide HSTEP
          rw [if_pos hxy] at hst
          obtain ⟨t, z, c, hOt⟩ := rs_last hpos
          have hmx := unhide HMAX (z, c) (by rw [hOt]; simp)
          simp only at hmx
          rw [hOt, bump_snoc] at hst
          rw [hOt, List.length_append, List.length_singleton] at hO2
          obtain ⟨n, hn⟩ : ∃ n, n = t.length := ⟨_, rfl⟩
          rw [← hn] at hO2
          have hnl : n ≤ i := by rw [hOt, List.length_append, List.length_singleton] at hOl; omega
          have hrow := unhide hO2
          rcases hrow.2 with ⟨_, hbad⟩ | ⟨gr, capr, cur, hv, _⟩
          · omega
          · obtain ⟨rfl, rfl, rfl⟩ := Value.slice.inj hv
            have hcell := hrow.cellAt (n * 2 + 1) (by omega)
            have hck : (rcells (t ++ [(z, c)]))[n * 2 + 1]? = some (.int .i64 (c : Int)) := by
              rw [rcells_snoc, List.getElem?_append_right (by rw [rcells_len]; omega), rcells_len, hn]; simp
            rw [hck] at hcell
            have hfz := hrow.frozenAt (n * 2 + 1)
            obtain ⟨hst1, hst2⟩ := hrow.stored (n * 2 + 1) (.int .i64 ((c + 1 : Nat) : Int))
            rw [hn, rcells_set, ← hn] at hst1
            have hO3 := hide hst1
            have hU2 : Hid (t ++ [(z, c + 1)] = runsN f b A (i + 1)) := hst.symm
            have hB3 := hide ((unhide hB2).grown hst2 hsz (fun z ez => (hrow.lt z ez).1))
            have hlen2 : Hid ((t ++ [(z, c + 1)]).length = n + 1) := by show _ = _; rw [List.length_append, List.length_singleton, hn]
            clear hrow hck hst1 hst2 hst hO2 hB2 HSTEP HMAX hxy hn hOt hpos
            have hee : (X.toList == X.toList) = true := by simp
            rw [hee]
            clear hee
            go_wp2_with fail
            go_roundg (la - (i + 1))
            case measure => omega
            case rel =>
              refine ⟨i + 1, t ++ [(z, c + 1)], by omega, rfl, by go_num, hU2, ?_, ?_⟩
              · rw [unhide hlen2]; exact unhide hO3
              · exact hB3
        · have hst := unhide HSTEP
          rw [if_neg hxy] at hst
          have hU2 : Hid (O ++ [(y, 1)] = runsN f b A (i + 1)) := hst.symm
          rw [hne]
          clear HSTEP HMAX hst hxy hne
          go_wp2_with (at_builtin; refine wpList_append_own _ rfl _ _ 28 rfl w.heap.size 33 i0 _ 2 24 Tryd.underlying28 hi hz0 hz1 hz2 rfl (by decide) _ _ _ rfl ((unhide hO2).alloc _) ⟨w'.heap.size, 0, none⟩ 1 1 [.string y, .int .i64 1] rfl rfl (two_new _ _ _ _) (two_one _ _) (by unfold maxLen; omega) (by omega) (by simp; omega) ?_)
          intro v1 w4 hO1 hg1 _
          have hB1 : Hid (Below w.heap.size w w4) := ((unhide hB2).alloc hsz _).grown hg1 (by simp; omega) (fun z ez => ((unhide hO2).lt z ez).1)
          have hO3 : Hid (w4.ownsRow w.heap.size 33 2 v1 (O ++ [(y, 1)]).length (rcells (O ++ [(y, 1)]))) := by
            show w4.ownsRow _ _ _ _ _ _
            rw [rcells_snoc, List.length_append]
            exact hO1
          obtain ⟨y0, y1, y2, hv1⟩ := sl_of_own hO1
          subst hv1
          clear hO1 hg1 hO2 hB2
          go_wp2_with fail
          go_roundg (la - (i + 1))
          case measure => omega
          case rel => exact ⟨i + 1, _, by omega, rfl, by go_num, hU2, hO3, hB1⟩
    · have hlt' : ¬ (i : Int) < (la : Int) := by omega
      obtain rfl : i = la := by omega
      have hU2 : Hid (runsN f b A i = O) := (unhide hU).symm
      clear hlt hU
      go_wp2_with fail
      go_ret
      exact ⟨_, rfl, by rw [unhide hU2]; exact unhide hO, unhide hBl⟩
end Go.Proofs.YtmaenfcnkcaojaaDoor.So
