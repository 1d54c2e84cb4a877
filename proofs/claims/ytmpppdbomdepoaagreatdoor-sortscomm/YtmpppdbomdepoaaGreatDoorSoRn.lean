/- What Runs of the program answers, given what IndexAny answers. -/
import Derived.Test.YtmpppdbomdepoaaGreatDoorSoSkip
import Derived.Test.YtmpppdbomdepoaaGreatDoorSoRunsP
import Derived.Test.YtmpppdbomdepoaaGreatDoorSoList
namespace Go.Proofs.YtmpppdbomdepoaaGreatDoor.So
open Go.RowKit Go.Shelf Ky
open Pa (Tx)

attribute [local go_sem] Oper.semAt_some

theorem Tryz.infoRunP : (Tryz.prog.info? 75).map (fun i => (i.zero, i.size, i.bytes)) = some (some (.agg #[.string ByteArray.empty, .int .i64 0]), 2, 24) := by kernel_rfl
theorem two_newP (w : World) (x y : Value) (e : TypeId) : ∀ j u, [x, y][j]? = some u → (w.alloc (.cells #[x, y] e)).cell? ((⟨w.heap.size, 0, none⟩ : Addr).add j) = some u := by
  intro j u hj
  match j, hj with
  | 0, hj => simp at hj; subst hj; simp [Addr.add]
  | 1, hj => simp at hj; subst hj; simp [Addr.add]
theorem two_oneP (a : ByteArray) (b : Int) : ∀ u ∈ [Value.string a, Value.int .i64 b], u.oneCell' = true := by
  intro u hu; simp at hu; rcases hu with rfl | rfl <;> rfl
theorem skipF_len2 : ∀ (n : Nat) (s : Bs), (skipF n s).length ≤ s.length
  | 0, _ => Nat.le_refl _
  | n + 1, s => by
    have h1 := skipF_len2 n (part2 s)
    have h2 : (part2 s).length ≤ s.length := (part2_suffix s).length_le
    unfold skipF; omega
/-- what was left of the line ahead -/
def lastL (f b : Int) (A : Ls) (i : Nat) : ByteArray := if i = 0 then ByteArray.empty else Ln.bt (lf f b (A.getD (i - 1) ByteArray.empty))
theorem runsN_step (f b : Int) (A : Ls) (i : Nat) : runsN f b A (i + 1) = if 0 < i ∧ lf f b (A.getD (i - 1) ByteArray.empty) = lf f b (A.getD i ByteArray.empty) then bump (runsN f b A i) else runsN f b A i ++ [(A.getD i ByteArray.empty, 1)] := by
  cases i with
  | zero => simp [runsN]
  | succ k =>
    simp only [runsN, Nat.add_sub_cancel]
    by_cases h : lf f b (A.getD k ByteArray.empty) = lf f b (A.getD (k + 1) ByteArray.empty)
    · rw [if_pos h, if_pos ⟨by omega, h⟩]
    · rw [if_neg h, if_neg (fun q => h q.2)]

set_option maxRecDepth 100000 in
set_option maxHeartbeats 1000000 in
theorem pruns_any (A : Ls) (a : Option Addr) (la ca : Nat) (f b : Int) (w : World) (hT : Tx w a la ca A) (hl : la ≤ 1048577) (hs : ∀ s ∈ A, s.size ≤ 1073741000) (hf : -9223372036854775808 ≤ f ∧ f ≤ 9223372036854775807) (hb : -9223372036854775808 ≤ b ∧ b ≤ 9223372036854775807)
    (hI : ∀ s ∈ A, ∀ t, t <:+ s.data.toList → IxSays t) :
    Calls Tryz.prog 71 #[.slice a la ca, .int .i64 f, .int .i64 b] w fun e w' => ∃ v, e = .returned v ∧ w'.ownsRow w.heap.size 75 2 v (runsN f b A la).length (rcells (runsN f b A la)) ∧ Below w.heap.size w w' := by
  obtain ⟨i0, hi, hz0, hz1, hz2⟩ := info_parts Tryz.infoRunP
  have hlen := hT.len
  have HT := hide hT
  have CF : Hid (∀ s ∈ A, ∀ W, Calls Tryz.prog 114 #[.string s, .int .i64 f] W fun e w' => e = .returned (.string (Ln.bt (skipF f.toNat s.data.toList))) ∧ Below W.heap.size W w') := fun s h W => by
    have q := skipFields_any s.data.toList f W hf (hI s h)
    rw [show Ln.bt s.data.toList = s from rfl] at q
    exact q
  have CB : Hid (∀ s ∈ A, ∀ W, Calls Tryz.prog 113 #[.string (Ln.bt (skipF f.toNat s.data.toList)), .int .i64 b] W fun e w' => e = .returned (.string (Ln.bt (lf f b s))) ∧ w' = W) := fun s h W => skipBytes_any _ b W (by
    have h1 := hs s h
    have h2 : (skipF f.toNat s.data.toList).length ≤ s.data.toList.length := skipF_len2 _ _
    have h3 : (Ln.bt (skipF f.toNat s.data.toList)).size = (skipF f.toNat s.data.toList).length := rfl
    have h4 : s.data.toList.length = s.size := rfl
    omega) hb
  clear hs hI hT hf hb
  go_enter Tryz.func71, Tryz.ntmps71
  go_wp2_with fail
  go_loopg [7, 8, 14] la (fun gm v7 v8 v14 wr => ∃ (i : Nat) (O : Rs), i ≤ la ∧ gm = la - i ∧ v14 = .int .i64 (i : Int) ∧ v8 = .string (lastL f b A i) ∧ Hid (O = runsN f b A i) ∧ Hid (wr.ownsRow w.heap.size 75 2 v7 O.length (rcells O)) ∧ Hid (Below w.heap.size w wr))
  case atStart => exact ⟨0, [], Nat.zero_le _, rfl, rfl, rfl, rfl, World.ownsRow_nil _ _ _ _, Below.refl _ _⟩
  case round =>
    obtain ⟨i, O, hil, rfl, rfl, rfl, hU, hO, hBl⟩ := hrel
    obtain ⟨s0, s1, s2, rfl⟩ := sl_of_own (unhide hO)
    have hOl : O.length ≤ i := by rw [unhide hU]; exact (runsN_len f b A i).1
    have hs1 : s1 = O.length := by
      rcases (unhide hO).2 with ⟨q, hn⟩ | ⟨_, _, _, q, _⟩
      · obtain ⟨-, rfl, -⟩ := Value.slice.inj q; omega
      · exact (Value.slice.inj q).2.1
    by_cases hlt : i < la
    · have hlt' : (i : Int) < (la : Int) := by omega
      obtain ⟨g, off, rfl, hgl, ci⟩ := tx_at (unhide HT) hlt
      have c1 := ((unhide hBl).cell (p := ⟨g, off + i, none⟩) hgl).trans ci
      have hyA := mem_at (show i < A.length by omega)
      have C1 := hide (unhide CF _ hyA)
      have C2 := hide (unhide CB _ hyA)
      have hstep := runsN_step f b A i
      have hlast2 : Hid (lastL f b A (i + 1) = Ln.bt (lf f b (A.getD i ByteArray.empty))) := by show _ = _; unfold lastL; rw [if_neg (by omega), Nat.add_sub_cancel]
      obtain ⟨y, hy⟩ : ∃ y, y = A.getD i ByteArray.empty := ⟨_, rfl⟩
      rw [← hy] at c1 C1 C2 hstep hlast2
      generalize hm : Ln.bt (skipF f.toNat y.data.toList) = m at C1 C2
      have hsz := (unhide hBl).size
      have hcase : (0 < i ∧ lf f b (A.getD (i - 1) ByteArray.empty) = lf f b y ∧ 0 < O.length ∧ lastL f b A i = Ln.bt (lf f b y)) ∨ (¬ (0 < i ∧ lf f b (A.getD (i - 1) ByteArray.empty) = lf f b y) ∧ (O.length = 0 ∨ (0 < O.length ∧ ((Ln.bt (lf f b y)).toList == (lastL f b A i).toList) = false))) := by
        by_cases h0 : 0 < i
        · have hpos : 0 < O.length := by rw [unhide hU]; exact (runsN_len f b A i).2 h0
          by_cases h1 : lf f b (A.getD (i - 1) ByteArray.empty) = lf f b y
          · left; exact ⟨h0, h1, hpos, by unfold lastL; rw [if_neg (by omega), h1]⟩
          · right
            refine ⟨fun q => h1 q.2, .inr ⟨hpos, ?_⟩⟩
            unfold lastL
            rw [if_neg (by omega), Go.ByteArray.toList_eq, Go.ByteArray.toList_eq]
            show (lf f b y == lf f b (A.getD (i - 1) ByteArray.empty)) = false
            simpa using fun e => h1 e.symm
        · right; exact ⟨fun q => h0 q.1, .inl (by omega)⟩
      have hmax := runsN_max f b A i
      rw [← unhide hU] at hmax
      obtain ⟨Y, hY⟩ : ∃ Y, Y = Ln.bt (lf f b y) := ⟨_, rfl⟩
      rw [← hY] at C2 hcase hlast2
      have hlast2' : Hid (Value.string Y = .string (lastL f b A (i + 1))) := by show _ = _; rw [unhide hlast2]
      have hlast2 := unhide hlast2'
      obtain ⟨X, hX⟩ : ∃ X, X = lastL f b A i := ⟨_, rfl⟩
      rw [← hX] at hcase ⊢
      have HLAST := hide hlast2
      clear hlast2 hlast2' hX hm ci hy hY hyA
      rcases hcase with ⟨h0, h1, hpos, rfl⟩ | ⟨h1, h2⟩
      · rw [if_pos ⟨h0, h1⟩, ← unhide hU] at hstep
        obtain ⟨t, z, c, hOt⟩ := rs_last hpos
        have hmx := hmax (z, c) (by rw [hOt]; simp)
        simp only at hmx
        rw [hOt, bump_snoc] at hstep
        have hU2 : Hid (t ++ [(z, c + 1)] = runsN f b A (i + 1)) := hstep.symm
        obtain ⟨n, hn⟩ : ∃ n, n = t.length := ⟨_, rfl⟩
        have hOn : O.length = n + 1 := by rw [hOt, List.length_append, List.length_singleton, hn]
        rw [hs1, hOn] at hO ⊢
        rw [hOt] at hO
        have hnl : n ≤ i := by omega
        clear hstep hmax h1 hOt hU
        have hO2 := unhide hO
        have hee : (X.toList == X.toList) = true := by simp
        have HN := hide hn
        clear hO2 hn
        go_wp2_with fail
        refine (unhide C1 _).mono ?_
        rintro e w2 ⟨rfl, b2⟩
        have hO4 := hide (own_below (unhide hO) b2)
        have hB4 := hide ((unhide hBl).trans (b2.mono (unhide hBl).size))
        clear b2 C1 hO hBl c1
        go_wp2_with fail
        refine (unhide C2 _).mono ?_
        rintro e w3 ⟨rfl, rfl⟩
        clear C2
        have hrow := unhide hO4
        rcases hrow.2 with ⟨_, hbad⟩ | ⟨gr, capr, cur, hv, _, _, hnc, _⟩
        · omega
        · obtain ⟨rfl, -, rfl⟩ := Value.slice.inj hv
          have eK : t.length * 2 + 1 = n * 2 + 1 := by have := unhide HN; omega
          have hcell := hrow.cellAt (t.length * 2 + 1) (by have := unhide HN; omega)
          have hck : (rcells (t ++ [(z, c)]))[t.length * 2 + 1]? = some (.int .i64 (c : Int)) := by
            rw [rcells_snoc, List.getElem?_append_right (by rw [rcells_len]; omega), rcells_len]; simp
          rw [hck, eK] at hcell
          have hfz := hrow.frozenAt (n * 2 + 1)
          obtain ⟨hst1, hst2⟩ := hrow.stored (t.length * 2 + 1) (.int .i64 ((c + 1 : Nat) : Int))
          rw [rcells_set, eK] at hst1
          rw [eK] at hst2
          have hO3 := hide hst1
          have hB3 := hide ((unhide hB4).grown hst2 (unhide hB4).size (fun z ez => (hrow.lt z ez).1))
          have hlen2 : Hid ((t ++ [(z, c + 1)]).length = n + 1) := by show _ = _; rw [List.length_append, List.length_singleton]; have := unhide HN; omega
          have hw1 : IntKind.i64.wrap (((n + 1 : Nat) : Int) - 1) = ((n : Nat) : Int) := by rw [IntKind.wrap_i64]; omega
          have hw3 : (((n : Nat) : Int) + 1) - 1 = ((n : Nat) : Int) := by omega
          have hcc : ((c + 1 : Nat) : Int) = (c : Int) + 1 := by omega
          rw [hcc] at hO3 hB3
          clear hrow hck hst1 hst2 eK hO4 hB4
          go_wp2_with fail
          go_roundg (la - (i + 1))
          case measure => omega
          case rel =>
            refine ⟨i + 1, t ++ [(z, c + 1)], by omega, rfl, by go_num, unhide HLAST, hU2, ?_, ?_⟩
            · rw [unhide hlen2]; exact unhide hO3
            · exact hB3
      · rw [if_neg h1, ← unhide hU] at hstep
        have hU2 : Hid (O ++ [(y, 1)] = runsN f b A (i + 1)) := hstep.symm
        rw [hs1] at hO ⊢
        clear hstep hmax h1 hU
        have hap : Hid (∀ W, W.ownsRow w.heap.size 75 2 (.slice s0 O.length s2) O.length (rcells O) → Below w.heap.size w W → True) := fun _ _ _ => trivial
        rcases h2 with h2 | ⟨h2, h3⟩
        · obtain ⟨n, hn⟩ : ∃ n, n = O.length := ⟨_, rfl⟩
          rw [← hn] at h2 hO hOl ⊢
          have HN := hide hn
          clear hn hs1
          have h00 : n = 0 := by omega
          subst h00
          clear h2
          go_wp2_with fail
          refine (unhide C1 _).mono ?_
          rintro e w2 ⟨rfl, b2⟩
          have hO4 := hide (own_below (unhide hO) b2)
          have hB4 := hide ((unhide hBl).trans (b2.mono (unhide hBl).size))
          clear b2 C1 hO hBl c1
          go_wp2_with fail
          refine (unhide C2 _).mono ?_
          rintro e w3 ⟨rfl, rfl⟩
          clear C2
          go_wp2_with (at_builtin; refine wpList_append_own _ rfl _ _ 72 rfl w.heap.size 75 i0 _ 2 24 Tryz.underlying72 hi hz0 hz1 hz2 rfl (by decide) _ _ _ rfl ((unhide hO4).alloc _) ⟨w3.heap.size, 0, none⟩ 1 1 [.string y, .int .i64 0] rfl rfl (two_newP _ _ _ _) (two_oneP _ _) (by unfold maxLen; omega) (by omega) (by simp; have := (unhide hB4).size; omega) ?_)
          intro v1 w5 hO5 hg5 _
          have hB5 : Hid (Below w.heap.size w w5) := ((unhide hB4).alloc (unhide hB4).size _).grown hg5 (by simp; have := (unhide hB4).size; omega) (fun z ez => ((unhide hO4).lt z ez).1)
          obtain ⟨t, ht⟩ : ∃ t, t = O := ⟨_, rfl⟩
          obtain ⟨z, hz⟩ : ∃ z, z = y := ⟨_, rfl⟩
          obtain ⟨c, hc⟩ : ∃ c : Nat, c = 0 := ⟨_, rfl⟩
          have hO6 : Hid (w5.ownsRow w.heap.size 75 2 v1 (0 + 1) (rcells (t ++ [(z, c)]))) := by
            show w5.ownsRow _ _ _ _ _ _
            rw [rcells_snoc, ht, hz, hc]
            exact hO5
          have hU3 : Hid (t ++ [(z, c + 1)] = runsN f b A (i + 1)) := by rw [ht, hz, hc]; exact hU2
          have HN2 : Hid (0 = t.length) := by rw [ht]; exact HN
          have hcb : c ≤ 1 := by omega
          clear hO5 hg5 hO4 hB4 HN hU2 ht hz hc
          have hU2 := hU3
          have HN := HN2
          clear hU3 HN2
          have hrow := unhide hO6
          rcases hrow.2 with ⟨_, hbad⟩ | ⟨gr, capr, cur, hv, _, _, hnc, _⟩
          · omega
          · subst hv
            have eK : t.length * 2 + 1 = 1 := by have := unhide HN; omega
            have hcell := hrow.cellAt (t.length * 2 + 1) (by have := unhide HN; omega)
            have hck : (rcells (t ++ [(z, c)]))[t.length * 2 + 1]? = some (.int .i64 (c : Int)) := by
              rw [rcells_snoc, List.getElem?_append_right (by rw [rcells_len]; omega), rcells_len]; simp
            rw [hck, eK] at hcell
            have hfz := hrow.frozenAt (1)
            obtain ⟨hst1, hst2⟩ := hrow.stored (t.length * 2 + 1) (.int .i64 ((c + 1 : Nat) : Int))
            rw [rcells_set, eK] at hst1
            rw [eK] at hst2
            have hO3 := hide hst1
            have hB3 := hide ((unhide hB5).grown hst2 (unhide hB5).size (fun z ez => (hrow.lt z ez).1))
            have hlen2 : Hid ((t ++ [(z, c + 1)]).length = 0 + 1) := by show _ = _; rw [List.length_append, List.length_singleton]; have := unhide HN; omega
            have hw1 : IntKind.i64.wrap (((0 + 1 : Nat) : Int) - 1) = ((0 : Nat) : Int) := by rw [IntKind.wrap_i64]; omega
            have hw3 : (((0 : Nat) : Int) + 1) - 1 = ((0 : Nat) : Int) := by omega
            have hcc : ((c + 1 : Nat) : Int) = (c : Int) + 1 := by omega
            rw [hcc] at hO3 hB3
            clear hrow hck hst1 hst2 eK hO6 hB5
            go_wp2_with fail
            go_roundg (la - (i + 1))
            case measure => omega
            case rel =>
              refine ⟨i + 1, t ++ [(z, c + 1)], by omega, rfl, by go_num, unhide HLAST, hU2, ?_, ?_⟩
              · rw [unhide hlen2]; exact unhide hO3
              · exact hB3
        · obtain ⟨n, hn⟩ : ∃ n, n = O.length := ⟨_, rfl⟩
          rw [← hn] at h2 hO hOl ⊢
          have HN := hide hn
          clear hn hs1
          have h2a : ¬ (n : Int) = 0 := by omega
          have h2b : ¬ n = 0 := by omega
          go_wp2_with fail
          refine (unhide C1 _).mono ?_
          rintro e w2 ⟨rfl, b2⟩
          have hO4 := hide (own_below (unhide hO) b2)
          have hB4 := hide ((unhide hBl).trans (b2.mono (unhide hBl).size))
          clear b2 C1 hO hBl c1
          go_wp2_with fail
          refine (unhide C2 _).mono ?_
          rintro e w3 ⟨rfl, rfl⟩
          clear C2
          go_wp2_with (at_builtin; refine wpList_append_own _ rfl _ _ 72 rfl w.heap.size 75 i0 _ 2 24 Tryz.underlying72 hi hz0 hz1 hz2 rfl (by decide) _ _ _ rfl ((unhide hO4).alloc _) ⟨w3.heap.size, 0, none⟩ 1 1 [.string y, .int .i64 0] rfl rfl (two_newP _ _ _ _) (two_oneP _ _) (by unfold maxLen; omega) (by omega) (by simp; have := (unhide hB4).size; omega) ?_)
          intro v1 w5 hO5 hg5 _
          have hB5 : Hid (Below w.heap.size w w5) := ((unhide hB4).alloc (unhide hB4).size _).grown hg5 (by simp; have := (unhide hB4).size; omega) (fun z ez => ((unhide hO4).lt z ez).1)
          obtain ⟨t, ht⟩ : ∃ t, t = O := ⟨_, rfl⟩
          obtain ⟨z, hz⟩ : ∃ z, z = y := ⟨_, rfl⟩
          obtain ⟨c, hc⟩ : ∃ c : Nat, c = 0 := ⟨_, rfl⟩
          have hO6 : Hid (w5.ownsRow w.heap.size 75 2 v1 (n + 1) (rcells (t ++ [(z, c)]))) := by
            show w5.ownsRow _ _ _ _ _ _
            rw [rcells_snoc, ht, hz, hc]
            exact hO5
          have hU3 : Hid (t ++ [(z, c + 1)] = runsN f b A (i + 1)) := by rw [ht, hz, hc]; exact hU2
          have HN2 : Hid (n = t.length) := by rw [ht]; exact HN
          have hcb : c ≤ 1 := by omega
          clear hO5 hg5 hO4 hB4 HN hU2 ht hz hc
          have hU2 := hU3
          have HN := HN2
          clear hU3 HN2
          have hrow := unhide hO6
          rcases hrow.2 with ⟨_, hbad⟩ | ⟨gr, capr, cur, hv, _, _, hnc, _⟩
          · omega
          · subst hv
            have eK : t.length * 2 + 1 = n * 2 + 1 := by have := unhide HN; omega
            have hcell := hrow.cellAt (t.length * 2 + 1) (by have := unhide HN; omega)
            have hck : (rcells (t ++ [(z, c)]))[t.length * 2 + 1]? = some (.int .i64 (c : Int)) := by
              rw [rcells_snoc, List.getElem?_append_right (by rw [rcells_len]; omega), rcells_len]; simp
            rw [hck, eK] at hcell
            have hfz := hrow.frozenAt (n * 2 + 1)
            obtain ⟨hst1, hst2⟩ := hrow.stored (t.length * 2 + 1) (.int .i64 ((c + 1 : Nat) : Int))
            rw [rcells_set, eK] at hst1
            rw [eK] at hst2
            have hO3 := hide hst1
            have hB3 := hide ((unhide hB5).grown hst2 (unhide hB5).size (fun z ez => (hrow.lt z ez).1))
            have hlen2 : Hid ((t ++ [(z, c + 1)]).length = n + 1) := by show _ = _; rw [List.length_append, List.length_singleton]; have := unhide HN; omega
            have hw1 : IntKind.i64.wrap (((n + 1 : Nat) : Int) - 1) = ((n : Nat) : Int) := by rw [IntKind.wrap_i64]; omega
            have hw3 : (((n : Nat) : Int) + 1) - 1 = ((n : Nat) : Int) := by omega
            have hcc : ((c + 1 : Nat) : Int) = (c : Int) + 1 := by omega
            rw [hcc] at hO3 hB3
            clear hrow hck hst1 hst2 eK hO6 hB5
            go_wp2_with fail
            go_roundg (la - (i + 1))
            case measure => omega
            case rel =>
              refine ⟨i + 1, t ++ [(z, c + 1)], by omega, rfl, by go_num, unhide HLAST, hU2, ?_, ?_⟩
              · rw [unhide hlen2]; exact unhide hO3
              · exact hB3
    · obtain rfl : i = la := by omega
      have hU2 : Hid (runsN f b A i = O) := (unhide hU).symm
      clear hlt hU
      go_wp2_with fail
      go_ret
      exact ⟨_, rfl, by rw [unhide hU2]; exact unhide hO, unhide hBl⟩
end Go.Proofs.YtmpppdbomdepoaaGreatDoor.So
