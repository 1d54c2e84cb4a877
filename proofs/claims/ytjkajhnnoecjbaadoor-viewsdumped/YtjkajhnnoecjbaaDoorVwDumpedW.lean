/- The law ViewsDumped's walk: octal digits read back. -/
import Derived.Test.YtjkajhnnoecjbaaDoorVwDumpedP
import Derived.Test.YtjkajhnnoecjbaaDoorVwAlive
import Derived.Test.YtjkajhnnoecjbaaDoorVwConv
import Derived.Maps.AppendAt
set_option linter.unusedVariables false
namespace Go.Proofs.YtjkajhnnoecjbaaDoor.Vw
open Go.RowKit Cu

set_option maxRecDepth 100000 in
set_option maxHeartbeats 400000 in
theorem read_any (s : ByteArray) (w : World) (hs : s.size ≤ 20) (hd : ∀ c ∈ bs s, isDig c) :
    Calls Tryd.prog 22 #[.string s] w fun e w' => e = .returned (.int .i64 (val (bs s) : Int)) ∧ w' = w := by
  have HD := hide hd
  clear hd
  go_enter Tryd.func22, Tryd.ntmps22
  go_wp2_with fail
  go_loopw [3, 4] (fun v2 v3 wr => ∃ (k : Nat), v2 = .int .i64 (val ((bs s).take k)) ∧ v3 = .int .i64 k ∧ k ≤ s.size ∧ wr = w) (fun _ v3 _ => s.size - (intOf v3).toNat)
  case atStart => exact ⟨0, rfl, rfl, by omega, rfl⟩
  case round =>
    obtain ⟨k, rfl, rfl, hk, rfl⟩ := hrel
    by_cases hlt : k < s.size
    · have hlt' : (k : Int) < (s.size : Int) := by omega
      have h1 := val_take_lt (bs s) (unhide HD) k hk
      have h2 : 8 ^ k ≤ 8 ^ 19 := Nat.pow_le_pow_right (by decide) (by omega)
      have h3 : isDig s[k] := unhide HD s[k] (List.getElem_mem (l := bs s) hlt)
      have h4 : (bs s).take (k + 1) = (bs s).take k ++ [s[k]] := by
        rw [List.take_succ_eq_append_getElem (show k < (bs s).length from hlt)]; rfl
      have h5 : Hid (val ((bs s).take (k + 1)) = 8 * val ((bs s).take k) + (s[k].toNat - 48)) := by
        show _ = _
        rw [h4, val_snoc]
      unfold isDig at h3
      generalize val ((bs s).take k) = m at *
      have h6 : m < 2 ^ 57 := by omega
      clear h1 h2 h4
      have h7 : ¬ (s[k].toNat : Int) < 48 := by omega
      have h8 : ¬ (55 : Int) < (s[k].toNat : Int) := by omega
      go_wp2_with fail
      go_roundw
      case rel => exact ⟨k + 1, by rw [unhide h5]; go_num, by go_num, by omega, by first | rfl | trivial⟩
      case measure => simp [intOf]; omega
    · have hlt' : ¬ (k : Int) < (s.size : Int) := by omega
      have he : (bs s).take k = bs s := List.take_of_length_le (by rw [bs_len]; omega)
      rw [he]
      go_wp2_with fail
      go_ret
      exact ⟨rfl, rfl⟩

/-- a list of texts of one's own, its cells -/
theorem row_open {W : World} {base n : Nat} {v : Value} {xs : List Bs} (h : W.ownsRow base 9 1 v n (xs.map fun q => .string (bt q))) (hn : 0 < n) :
    ∃ g o c, v = .slice (some ⟨g, o, none⟩) n c ∧ base ≤ g ∧ g < W.heap.size ∧ n ≤ c ∧ ∀ i, i < xs.length → W.cell? ⟨g, o + i, none⟩ = some (.string (bt (xs.getD i []))) := by
  rcases h.2 with ⟨_, h0⟩ | ⟨g, cap, cur, hv, _, _, hle, _⟩
  · omega
  · subst hv
    refine ⟨g, 0, cap, rfl, (h.lt g rfl).1, (h.lt g rfl).2, hle, fun i hi => ?_⟩
    have h1 := h.cells (g := g) rfl i (.string (bt (xs.getD i []))) (by simp [List.getD, List.getElem?_eq_getElem hi])
    rw [add_at] at h1
    exact h1
theorem dumpP_len (s : Bs) (h : s.length ≤ 20000) : (dumpP s).length ≤ 1073741824 := by
  have h1 := dumpTo_len s s.length (by omega)
  have h2 := octP_len s.length 7 (by omega)
  have h3 := nl_len s.length
  unfold dumpP
  simp only [List.length_append, List.length_singleton]; omega
theorem split_dump (s : ByteArray) (w : World) (hs : s.size ≤ 20000) :
    Calls Tryd.prog 19 #[.string (bt (dumpP (bs s)))] w fun e w' => ∃ v, e = .returned (.tuple #[v, .bool true]) ∧ w'.ownsRow w.heap.size 9 1 v (rowsN s.size + 1) ((linesD (bs s)).map fun q => .string (bt q)) ∧ Below w.heap.size w w' := by
  have h := Ln.split_any (bt (dumpP (bs s))) w (dumpP_len (bs s) hs)
  have e : Ln.parts Ln.isEnd (bt (dumpP (bs s))).data.toList = (linesD (bs s)).map fun x => (x, true) := linesD_parts (bs s)
  have e2 : Ln.lastB ((linesD (bs s)).map fun x => (x, true)) = true := by
    unfold linesD
    rw [List.map_append]
    exact Ln.lastB_snoc _ _
  have e3 : Ln.strs ((linesD (bs s)).map fun x => (x, true)) = (linesD (bs s)).map fun q => .string (bt q) := by
    unfold Ln.strs
    rw [List.map_map]; rfl
  rw [e, e2, e3, List.length_map, linesD_len] at h
  exact h
theorem linesD_at (s : Bs) (i : Nat) (h : i < rowsN s.length) : (linesD s).getD i [] = lineAt s i := by
  unfold linesD
  simp [List.getD, List.getElem?_append, h]
theorem linesD_end (s : Bs) : (linesD s).getD (rowsN s.length) [] = octP s.length 7 := by
  unfold linesD
  simp [List.getD]
theorem lineAt_len (s : Bs) (i : Nat) (h : i < 20000) : (lineAt s i).length ≤ 1000 := by
  have h1 := octP_len (16 * i) 7 (by omega)
  have h2 : ∀ l : Bs, (l.flatMap cellD).length = 4 * l.length := by
    intro l
    induction l with
    | nil => rfl
    | cons c l ih => rw [List.flatMap_cons, List.length_append, ih, List.length_cons]; unfold cellD; rw [List.length_cons, octP_len3]; omega
  have h3 : ((s.drop (16 * i)).take 16).length ≤ 16 := by rw [List.length_take]; omega
  unfold lineAt
  rw [List.length_append, h2]; omega
theorem fields_dump (s : ByteArray) (i : Nat) (w : World) (hi : i < 20000) :
    Calls Tryd.prog 21 #[.string (bt (lineAt (bs s) i)), .int .u8 32] w fun e w' => ∃ v, e = .returned v ∧ w'.ownsRow w.heap.size 9 1 v (fieldsD (bs s) i).length ((fieldsD (bs s) i).map fun q => .string (bt q)) ∧ Below w.heap.size w w' := by
  have h := Ln.fields_any (bt (lineAt (bs s) i)) 32 w (by have := lineAt_len (bs s) i hi; rw [bt_len]; omega) (by decide)
  have e : Ln.fieldsL 32 (bt (lineAt (bs s) i)).data.toList = fieldsD (bs s) i := lineAt_fields (bs s) i
  rw [e] at h
  exact h
theorem fieldsD_at (s : Bs) (i k : Nat) (h1 : 1 ≤ k) (h : k < (fieldsD s i).length) : ∃ c, (fieldsD s i).getD k [] = octP c.toNat 3 ∧ (chunk s i).take k = (chunk s i).take (k - 1) ++ [c] := by
  obtain ⟨j, rfl⟩ : ∃ j, k = j + 1 := ⟨k - 1, by omega⟩
  rw [fieldsD_len] at h
  have hj : j < (chunk s i).length := by omega
  refine ⟨(chunk s i)[j], ?_, by rw [Nat.add_sub_cancel, List.take_succ_eq_append_getElem hj]⟩
  unfold fieldsD
  simp [List.getD, List.getElem?_eq_getElem hj]
theorem Tryd.infoB : (Tryd.prog.info? 5).map (fun i => (i.zero, i.size, i.bytes)) = some (some (.int .u8 0), 1, 1) := by kernel_rfl

set_option maxRecDepth 100000 in
set_option maxHeartbeats 1000000 in
theorem viewsDumped_any (s : ByteArray) (w : World) (hs : s.size ≤ 4611686018427387904) (hT : Tz w) :
    Calls Tryd.prog 6 #[.string s] w fun e w' => e = .returned (.bool true) ∧ Below w.heap.size w w' := by
  have AL : Hid (∀ W, Below w.heap.size w W → Calls Tryd.prog 16 #[] W fun e w' => e = .returned (.bool true) ∧ Below W.heap.size W w') := fun W hW => alive_any W (hT.below hW)
  by_cases h300 : 20000 < s.size
  · have h300' : (20000 : Int) < (s.size : Int) := by omega
    go_enter Tryd.func6, Tryd.ntmps6
    go_wp2_with fail
    refine (unhide AL _ (Below.refl _ _)).mono ?_
    rintro e w1 ⟨rfl, b1⟩
    go_wp2_with fail
    refine (unhide AL _ b1).mono ?_
    rintro e w3 ⟨rfl, b3⟩
    go_wp2_with fail
    go_ret
    exact ⟨rfl, b1.trans (b3.mono b1.size)⟩
  have h300' : ¬ (20000 : Int) < (s.size : Int) := by omega
  have DU : Hid (∀ W, Below w.heap.size w W → Calls Tryd.prog 20 #[.string s] W fun e w' => e = .returned (.string (bt (dumpP (bs s)))) ∧ Below W.heap.size W w') := fun W hW => dump_any s W (by omega) (hT.below hW)
  have SP := hide fun W => split_dump s W (by omega)
  have FD : Hid (∀ i W, i < 20000 → _) := fun i W hi => fields_dump s i W hi
  obtain ⟨L, hL⟩ : ∃ L, L = linesD (bs s) := ⟨_, rfl⟩
  obtain ⟨R, hR⟩ : ∃ R, R = rowsN s.size := ⟨_, rfl⟩
  have hRs : R ≤ 1251 := by rw [hR]; unfold rowsN; omega
  have hLl : Hid (L.length = R + 1) := by show _ = _; rw [hL, hR]; exact linesD_len (bs s)
  have hLi : Hid (∀ i, i < R → L.getD i [] = lineAt (bs s) i) := fun i hi => by rw [hL]; exact linesD_at (bs s) i (by rw [hR] at hi; exact hi)
  have hLe : Hid (L.getD R [] = octP s.size 7) := by show _ = _; rw [hL, hR]; exact linesD_end (bs s)
  have hCh : Hid (∀ i, i < R → 1 ≤ (chunk (bs s) i).length ∧ (chunk (bs s) i).length ≤ 16 ∧ ((chunk (bs s) i).length < 16 → i + 1 = R)) := fun i hi => by rw [hR] at hi ⊢; exact chunk_len (bs s) i hi
  have hAll : Hid ((bs s).take (16 * R) = bs s) := List.take_of_length_le (by rw [hR]; show s.size ≤ _; unfold rowsN; omega)
  rw [← hL, ← hR] at SP
  clear hL hR
  obtain ⟨i0, hi, hz0, hz1, hz2⟩ := info_parts Tryd.infoB
  go_enter Tryd.func6, Tryd.ntmps6
  go_wp2_with fail
  refine (unhide AL _ (Below.refl _ _)).mono ?_
  rintro e w1 ⟨rfl, b1⟩
  have B1 := hide b1
  clear b1
  go_wp2_with fail
  refine (unhide DU _ (unhide B1)).mono ?_
  rintro e w2 ⟨rfl, b2⟩
  have B2 := hide ((unhide B1).trans (b2.mono (unhide B1).size))
  have SP2 := hide (unhide SP w2)
  clear SP DU b2 B1
  generalize bt (dumpP (bs s)) = D at *
  go_wp2_with fail
  refine (unhide SP2).mono ?_
  rintro e w3 ⟨v3, rfl, hO3, b3⟩
  have B3 := hide ((unhide B2).trans (b3.mono (unhide B2).size))
  obtain ⟨gl, ol, cl, rfl, _, hgl, hcl, hcells⟩ := row_open hO3 (by omega)
  have HC := hide hcells
  clear hcells hO3 b3 SP2 B2
  obtain ⟨M, hM⟩ : ∃ M, M = R + 1 := ⟨_, rfl⟩
  rw [← hM] at hcl hLl ⊢
  replace hM := hide hM
  go_wp2_with fail
  go_loopw [5, 6] (fun v5 v6 wr => ∃ (v : Value) (i : Nat), i ≤ R ∧ v = v5 ∧ v6 = .int .i64 i ∧ Hid (Row w3.heap.size v ((bs s).take (16 * i)) wr) ∧ Hid (Below w3.heap.size w3 wr)) (fun _ v6 _ => R - (intOf v6).toNat)
  case atStart => exact ⟨_, 0, by omega, rfl, rfl, row_nil _ _, Below.refl _ _⟩
  case round =>
    obtain ⟨v, i, hi1, rfl, rfl, hRow, hB⟩ := hrel
    have hsz := (unhide hB).size
    by_cases hlt : i < R
    · have hMR := unhide hM
      have hlt' : (i : Int) + 1 < (M : Int) := by omega
      have hlt2 : (i : Int) < (M : Int) := by omega
      have hcell := ((unhide hB).cell (p := ⟨gl, ol + i, none⟩) hgl).trans (unhide HC i (by rw [unhide hLl]; omega))
      rw [unhide hLi i hlt] at hcell
      have F1 := hide (unhide FD i wr (by omega))
      obtain ⟨hc1, hc2, hc3⟩ := unhide hCh i hlt
      have hfl := fieldsD_len (bs s) i
      have hfa := hide (fieldsD_at (bs s) i)
      have hf0 : Hid ((fieldsD (bs s) i).getD 0 [] = octP (16 * i) 7) := rfl
      have hcn := hide (chunk_next (bs s) i)
      generalize bt (lineAt (bs s) i) = x at *
      generalize fieldsD (bs s) i = F at *
      generalize chunk (bs s) i = C at *
      go_wp2_with fail
      refine (unhide F1).mono ?_
      rintro e w4 ⟨v4, rfl, hO4, b4⟩
      have B4 := hide ((unhide hB).trans (b4.mono hsz))
      have hRow4 := hide (row_below (unhide hRow) b4)
      obtain ⟨m, hm⟩ : ∃ m, m = F.length := ⟨_, rfl⟩
      rw [← hm] at hO4 hfl hfa
      obtain ⟨gf, of, cf, rfl, hgf1, hgf2, hcf, hfc⟩ := row_open hO4 (by omega)
      rw [← hm] at hfc
      have hne : ¬ v.ownBlock = some gf := fun e => by have := ((unhide hRow).lt gf e).2; omega
      have HF := hide hfc
      have hcell0 : w4.cell? ⟨gf, of, none⟩ = some (.string (bt (octP (16 * i) 7))) := by have h := hfc 0 (by omega); rw [unhide hf0] at h; exact h
      have R0 : Hid (∀ W, Calls Tryd.prog 22 #[.string (bt (octP (16 * i) 7))] W fun e w' => e = .returned (.int .i64 (16 * (i : Int))) ∧ w' = W) := fun W => by
        have h := read_any (bt (octP (16 * i) 7)) W (by rw [bt_len, octP_len7 _ (by omega)]; decide) (octP_digs _ _)
        have e : (val (bs (bt (octP (16 * i) 7))) : Int) = 16 * (i : Int) := by
          show ((val (octP (16 * i) 7) : Nat) : Int) = _
          rw [val_octP]; omega
        rw [e] at h
        exact h
      generalize bt (octP (16 * i) 7) = x0 at *
      have hm2 : ¬ (m : Int) < 2 := by omega
      have hm17 : ¬ (17 : Int) < (m : Int) := by omega
      have hm0 : (0 : Int) < (m : Int) := by omega
      have hor : ((m : Int) < 17 ∧ ¬ (i : Int) + 2 < (M : Int)) ∨ ¬ (m : Int) < 17 := by omega
      have hC17 : C.length ≤ 16 := hc2
      replace hfl := hide hfl
      clear hfc hO4 F1 hRow hB hcell b4 FD hMR hm hc1 hc2 hc3
      rcases hor with ⟨h17, hi2⟩ | h17
      all_goals
        go_wp2_with fail
        refine (unhide R0 _).mono ?_
        rintro e w5 ⟨rfl, rfl⟩
        clear R0
        go_wp2_with fail
        go_loopw [5, 8] (fun v5 v8 wr => ∃ (v : Value) (k : Nat), 1 ≤ k ∧ k ≤ m ∧ v = v5 ∧ v8 = .int .i64 k ∧ Hid (Row w3.heap.size v ((bs s).take (16 * i) ++ C.take (k - 1)) wr) ∧ Hid (∀ j, j < m → wr.cell? ⟨gf, of + j, none⟩ = some (.string (bt (F.getD j [])))) ∧ gf < wr.heap.size ∧ Hid (¬ v.ownBlock = some gf) ∧ Hid (Below w3.heap.size w3 wr)) (fun _ v8 _ => m - (intOf v8).toNat)
        case atStart => exact ⟨_, 1, by omega, by omega, rfl, rfl, by rw [Nat.sub_self, List.take_zero, List.append_nil]; exact hRow4, HF, hgf2, hne, B4⟩
        case round =>
          clear hRow4 HF hne B4 hcell0 hgf2
          obtain ⟨v, k, hk1, hk2, rfl, rfl, hRow, HF, hgf2, hne, hB⟩ := hrel
          have hsz2 := (unhide hB).size
          by_cases hkm : k < m
          · have hkm' : (k : Int) < (m : Int) := by omega
            have hcell := unhide HF k hkm
            obtain ⟨c, hc1, hc2⟩ := unhide hfa k hk1 hkm
            rw [hc1] at hcell
            have hx3 : (bt (octP c.toNat 3)).size = 3 := octP_len3 c
            have RK : Hid (∀ W, Calls Tryd.prog 22 #[.string (bt (octP c.toNat 3))] W fun e w' => e = .returned (.int .i64 (c.toNat : Int)) ∧ w' = W) := fun W => by
              have h := read_any (bt (octP c.toNat 3)) W (by rw [hx3]; decide) (octP_digs _ _)
              have e : (val (bs (bt (octP c.toNat 3))) : Int) = (c.toNat : Int) := by
                show ((val (octP c.toNat 3) : Nat) : Int) = _
                rw [val_octP]
              rw [e] at h
              exact h
            generalize bt (octP c.toNat 3) = y at *
            have hx3' : (y.size : Int) = 3 := by omega
            have hcN := c.toNat_lt
            have h256 : (c.toNat : Int) < 256 := by omega
            have h000 : (0 : Int) ≤ (c.toNat : Int) := by omega
            have hlen : ((bs s).take (16 * i) ++ C.take (k - 1)).length ≤ 30000 := by
              rw [List.length_append, List.length_take, List.length_take, bs_len]; omega
            have HC2 : Hid ((bs s).take (16 * i) ++ C.take k = ((bs s).take (16 * i) ++ C.take (k - 1)) ++ [c]) := by
              show _ = _
              rw [hc2, List.append_assoc]
            clear hc1 hc2
            generalize (bs s).take (16 * i) ++ C.take (k - 1) = P at *
            go_wp2_with fail
            refine (unhide RK _).mono ?_
            rintro e w6 ⟨rfl, rfl⟩
            clear RK
            go_wp2_with (at_builtin; refine wpList_append_own_at _ rfl _ _ 49 rfl w3.heap.size 5 i0 (.int .u8 0) 1 1 Tryd.underlying49 hi hz0 hz1 hz2 rfl (by decide) _ _ _ rfl ((unhide hRow).alloc _) ⟨_, 0, none⟩ 1 1 [.int .u8 (c.toNat : Int)] rfl rfl (byte_new _ _ _) (byte_one _) (by unfold maxLen; omega) (by omega) (by simp; omega) ?_)
            intro v2 w7 hO7 hg7 _ hloc
            have hB7 : Hid (Below w3.heap.size w3 w7) := ((unhide hB).alloc hsz2 _).grown hg7 (by simp; omega) (fun j ej => ((unhide hRow).lt j ej).1)
            have hR7 : Hid (Row w3.heap.size v2 ((bs s).take (16 * i) ++ C.take (k + 1 - 1)) w7) := by
              rw [Nat.add_sub_cancel, unhide HC2]
              exact row_snoc hO7 rfl
            have hg7' := grown_alloc hg7
            have hblk := hg7'.block gf hgf2 (fun e => unhide hne e.symm)
            have HF7 : Hid (∀ j, j < m → w7.cell? ⟨gf, of + j, none⟩ = some (.string (bt (F.getD j [])))) := fun j hj => by
              have h := unhide HF j hj
              rw [← h]
              unfold World.cell?
              rw [hblk]
            have hne7 : Hid (¬ v2.ownBlock = some gf) := fun e => by
              rcases hloc with h | h
              · exact unhide hne (h.symm.trans e)
              · rw [h] at e
                have := Option.some.inj e
                omega
            have hgf7 : gf < w7.heap.size := Nat.lt_of_lt_of_le hgf2 hg7'.size
            clear hO7 hg7 hloc hg7' hblk hRow HF hne hB hcell HC2
            go_wp2_with fail
            go_roundw
            case rel => exact ⟨_, k + 1, by omega, by omega, rfl, by go_num, hR7, HF7, hgf7, hne7, hB7⟩
            case measure => simp [intOf]; omega
          · have hkm' : ¬ (k : Int) < (m : Int) := by omega
            have hRn : Hid (Row w3.heap.size v ((bs s).take (16 * (i + 1))) wr) := by
              have h := unhide hRow
              have h2 := unhide hfl
              rw [List.take_of_length_le (l := C) (i := k - 1) (by omega), unhide hcn] at h
              exact h
            go_wp2_with fail
            go_roundw
            case rel => exact ⟨_, i + 1, by omega, rfl, by go_num, hRn, hB⟩
            case measure => simp [intOf]; omega
    · obtain rfl : i = R := by omega
      have hcell := ((unhide hB).cell (p := ⟨gl, ol + i, none⟩) hgl).trans (unhide HC i (by rw [unhide hLl, unhide hM]; omega))
      rw [unhide hLe] at hcell
      have hx7 : (bt (octP s.size 7)).size = 7 := octP_len7 s.size (by omega)
      have R0 : Hid (∀ W, Calls Tryd.prog 22 #[.string (bt (octP s.size 7))] W fun e w' => e = .returned (.int .i64 (s.size : Int)) ∧ w' = W) := fun W => by
        have h := read_any (bt (octP s.size 7)) W (by rw [hx7]; decide) (octP_digs _ _)
        have e : (val (bs (bt (octP s.size 7))) : Int) = (s.size : Int) := by
          show ((val (octP s.size 7) : Nat) : Int) = _
          rw [val_octP]
        rw [e] at h
        exact h
      have hcv : (convert 49 9 v).run Tryd.prog wr = .ok (.string s) wr := by
        have h := cv_back _ (unhide hRow)
        rw [unhide hAll] at h
        exact h
      generalize bt (octP s.size 7) = x at *
      have hx7' : (x.size : Int) = 7 := by omega
      have hB0 := hide ((unhide B3).trans ((unhide hB).mono (unhide B3).size))
      have hMR := unhide hM
      obtain rfl : M = i + 1 := hMR
      clear hRow hB hM
      go_wp2_with fail
      refine (unhide R0 _).mono ?_
      rintro e w5 ⟨rfl, rfl⟩
      clear R0
      go_wp2_with fail
      go_ret
      exact ⟨rfl, unhide hB0⟩
end Go.Proofs.YtjkajhnnoecjbaaDoor.Vw
