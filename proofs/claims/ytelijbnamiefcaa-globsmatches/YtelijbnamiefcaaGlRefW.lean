/- What the document's Things answers: the walk. -/
import Derived.Test.YtelijbnamiefcaaGlRefH
namespace Go.Proofs.Ytelijbnamiefcaa.Gl
open Go.RowKit

theorem step_rd {S : Bs} {k kd n : Nat} {ts : List Th} (h : rdA S = (rdA (S.drop k)).map (ts ++ ·)) (hk : k < S.length) (hkd : kindP (S.drop k) = (kd, n)) (hn : k + n ≤ S.length) : rdA S = (rdA (S.drop (k + n))).map ((ts ++ [thP kd ((S.drop k).take n)]) ++ ·) := by
  have hne : S.drop k ≠ [] := by rw [List.drop_eq_getElem_cons hk]; exact List.cons_ne_nil _ _
  rw [h, rdA_cons _ hne, hkd]
  simp only []
  rw [if_neg (by rw [List.length_drop]; omega), List.drop_drop, Option.map_map]
  congr 1
  funext x
  simp
theorem step_none {S : Bs} {k kd n : Nat} {ts : List Th} (h : rdA S = (rdA (S.drop k)).map (ts ++ ·)) (hk : k < S.length) (hkd : kindP (S.drop k) = (kd, n)) (hn : S.length < k + n) : rdA S = none := by
  have hne : S.drop k ≠ [] := by rw [List.drop_eq_getElem_cons hk]; exact List.cons_ne_nil _ _
  rw [h, rdA_cons _ hne, hkd]
  simp only []
  rw [if_pos (by rw [List.length_drop]; omega)]; rfl
/-- append to a row of one's own, as one step of a region that draws -/
theorem step_append_own {P : Program} {ops : Array Oper} {o : Oper} {a : Act} {w : World} {K : Act → World → Prop} {Q : Exit → Act → World → Prop} {E : Prop} (hgd : o.guard = none) (s x : Operand) (t : TypeId)
    (ho : o.op = .call { callee := .builtin .append, args := #[s, x], argTypes := #[t, t] })
    (base : Nat) (e : TypeId) (i : TypeInfo) (z : Value) (size bytes : Nat) (ht : P.underlying t = some (.slice e)) (hi : P.info? e = some i) (hz : i.zero = some z)
    (hsize : i.size = size) (hby : i.bytes = bytes) (hzs : z.cells.size = size) (hsz : 0 < size)
    (v : Value) (n : Nat) (xs : List Value) (hs : a.eval s = v) (hown : w.ownsRow base e size v n xs)
    (ad : Addr) (m c : Nat) (news : List Value) (hx : a.eval x = .slice (some ad) m c) (hl : news.length = m * size) (hnews : ∀ j u, news[j]? = some u → w.cell? (ad.add j) = some u) (h1 : ∀ u ∈ news, u.oneCell' = true)
    (h63 : n + m ≤ maxLen) (hbytes : (n + m) * bytes ≤ 140737488355328) (hbase : base ≤ w.heap.size)
    (h : ∀ v' w', w'.ownsRow base e size v' (n + m) (xs ++ news) → w.grownBy w' v.ownBlock → K (a.put o.dst v') w') :
    if Region.wanted o (yielded ops a.tmps) = true then Oper.wp P o a w K Q else E := by
  have hw : Region.wanted o (yielded ops a.tmps) = true := by simp [Region.wanted, hgd]
  rw [if_pos hw]
  obtain ⟨v', w', hr, h2, h3, _, _⟩ := run_append_own_at (P := P) w base t o.type e i z size bytes ht hi hz hsize hby hzs hsz v n xs hown ad m c news hl hnews h1 h63 hbytes hbase
  unfold Oper.wp execOp
  simp only [ho, resolve, invoke, builtin, Sem.run_bind, Sem.run_pure, Result.andThen_ok, List.map_toArray, List.map_cons, List.map_nil, hs, hx, hr]
  exact h v' w' h2 h3
theorem norm_q (x : UInt8) : rcs (norm (thP 2 [92, x])).star (norm (thP 2 [92, x])).p = rcs false (fun d => decide (d = x)) := by
  rw [th_quoted]; rfl
theorem norm_p (x : UInt8) : rcs (norm (thP 4 [x])).star (norm (thP 4 [x])).p = rcs false (fun d => decide (d = x)) := by
  rw [th_plain]; rfl
/-- the cells of a thing that is one byte -/
def rone (x : UInt8) : Array Value := rcs false (fun d => decide (d = x))
theorem rone_size (x : UInt8) : (rone x).size = 257 := rcs_size _ _
theorem rone_q (x : UInt8) : rone x = rcs (norm (thP 2 [92, x])).star (norm (thP 2 [92, x])).p := (norm_q x).symm
theorem rone_p (x : UInt8) : rone x = rcs (norm (thP 4 [x])).star (norm (thP 4 [x])).p := (norm_p x).symm
theorem rone_ones (x : UInt8) : ∀ u ∈ (rone x).toList, u.oneCell' = true := rcs_ones _ _
theorem rone_any2 (c : UInt8) (w : World) : Calls Try.prog 27 #[.int .u8 c.toNat] w fun e w' => e = .returned (.agg (rone c)) ∧ Below w.heap.size w w' := by
  unfold rone
  exact rone_any c w
theorem pack_q (x : UInt8) : ∃ (C : Array Value) (t : Th), t = thP 2 [92, x] ∧ C.size = 257 ∧ Hid (C = rcs (norm t).star (norm t).p) ∧ Hid (∀ u ∈ C.toList, u.oneCell' = true) ∧ Hid (∀ W, Calls Try.prog 27 #[.int .u8 x.toNat] W fun e w' => e = .returned (.agg C) ∧ Below W.heap.size W w') :=
  ⟨rone x, _, rfl, rone_size x, rone_q x, rone_ones x, rone_any2 x⟩
theorem pack_p (x : UInt8) : ∃ (C : Array Value) (t : Th), t = thP 4 [x] ∧ C.size = 257 ∧ Hid (C = rcs (norm t).star (norm t).p) ∧ Hid (∀ u ∈ C.toList, u.oneCell' = true) ∧ Hid (∀ W, Calls Try.prog 27 #[.int .u8 x.toNat] W fun e w' => e = .returned (.agg C) ∧ Below W.heap.size W w') :=
  ⟨rone x, _, rfl, rone_size x, rone_p x, rone_ones x, rone_any2 x⟩
theorem own_below {w w' : World} {base : Nat} {e : TypeId} {size : Nat} {v : Value} {n : Nat} {xs : List Value} (h : w.ownsRow base e size v n xs) (hb : Below w.heap.size w w') : w'.ownsRow base e size v n xs :=
  h.kept (row := none) ⟨hb.os, hb.tape, hb.output, hb.size, fun k hk _ => hb.block k hk⟩ (by cases v.ownBlock <;> simp)
/-- what Things answers -/
def ThR (R : Option (List Th)) (n B : Nat) (w' : World) (e : Ending) : Prop := (R = none ∧ e = .returned (.tuple #[.slice none 0 0, .bool false])) ∨ ∃ ts v, R = some ts ∧ ts.length ≤ n ∧ n ≤ 4096 ∧ e = .returned (.tuple #[v, .bool true]) ∧ w'.ownsRow B 49 257 v ts.length (rtc (ts.map norm))
set_option maxHeartbeats 8000000 in
set_option maxRecDepth 100000 in
theorem things_any (s : ByteArray) (w : World) (hs : s.size ≤ 4611686018427387904) :
    Calls Try.prog 18 #[.string s] w fun e w' => ThR (readP (bs s)) s.size w.heap.size w' e ∧ Below w.heap.size w w' := by
  obtain ⟨R, hR⟩ : ∃ R, R = readP (bs s) := ⟨_, rfl⟩
  rw [← hR]
  by_cases hbig : 4096 < s.size
  · have hb' : (4096 : Int) < (s.size : Int) := by omega
    have hn : R = none := by rw [hR]; unfold readP; rw [if_pos (by rw [bs_len]; exact hbig)]
    subst hn
    clear hR
    go_enter Try.func18, Try.ntmps18
    go_wp2_with fail
    go_ret2
    exact ⟨.inl ⟨rfl, rfl⟩, Below.refl _ _⟩
  · have hb' : ¬ (4096 : Int) < (s.size : Int) := by omega
    have hRA : Hid (R = rdA (bs s)) := by rw [hR]; exact readP_of (by rw [bs_len]; omega)
    clear hR
    obtain ⟨i0, hi, hz0, hz1, hz2⟩ := info_parts Try.infoRT
    obtain ⟨hzero, _⟩ := zero_of_info Try.infoRT2
    obtain ⟨z, hz⟩ : ∃ z, z = rcs false zp := ⟨_, rfl⟩
    rw [← hz] at hzero hz0
    have hzs : z.size = 257 := by rw [hz, rcs_size]
    have hzc : (Value.agg z).cells.size = 257 := hzs
    have HZN : Hid (¬ z = #[]) := fun e => by rw [e] at hzs; cases hzs
    have HZ := hide hz
    clear hz
    have HONE := hide rone_any2
    have HEV := hide revery_any
    go_enter Try.func18, Try.ntmps18
    go_wp2_with fail
    go_loopw [4, 5] (fun v4 v5 wr => ∃ (v : Value) (k : Nat) (ts : List Th), k ≤ s.size ∧ ts.length ≤ k ∧ v = v4 ∧ v5 = .int .i64 k ∧ Hid (wr.ownsRow w.heap.size 49 257 v ts.length (rtc (ts.map norm))) ∧ Hid (rdA (bs s) = (rdA ((bs s).drop k)).map (ts ++ ·)) ∧ Hid (Below w.heap.size w wr)) (fun _ v5 _ => s.size - (intOf v5).toNat)
    case atStart => exact ⟨_, 0, [], by omega, by simp, rfl, rfl, World.ownsRow_nil _ _ _ _, by simp [Hid], Below.refl _ _⟩
    case round =>
      obtain ⟨v, k, ts, hk, htk, rfl, rfl, hO, hE, hB⟩ := hrel
      have hsz := (unhide hB).size
      by_cases hlt : k < s.size
      · have hlt' : (k : Int) < (s.size : Int) := by omega
        have hat := hide (bs_at s k hlt)
        by_cases h42 : s[k] = 42
        · have hc : (s[k].toNat : Int) = 42 := by rw [h42]; rfl
          have hzne := unhide HZN
          have hkd : kindP ((bs s).drop k) = (0, 1) := by rw [unhide hat, h42]; rfl
          have htk1 : ((bs s).drop k).take 1 = [42] := by rw [unhide hat, h42]; rfl
          have hE9 := hide (step_rd (unhide hE) hlt hkd (by show k + 1 ≤ s.size; omega))
          rw [htk1] at hE9
          clear hkd htk1 hE hat h42
          obtain ⟨C, hC⟩ : ∃ C, C = z.setIfInBounds 0 (.bool true) := ⟨_, rfl⟩
          have HCE := hide hC
          have hC2 : C = rcs true zp := by rw [hC, unhide HZ, rcs_set0]
          have hCs : C.size = 257 := by rw [hC2, rcs_size]
          have HC : Hid (C = rcs (norm (thP 0 [42])).star (norm (thP 0 [42])).p) := by rw [hC2]; rfl
          have HC1 : Hid (∀ u ∈ C.toList, u.oneCell' = true) := by rw [hC2]; exact rcs_ones _ _
          have hset : z.setIfInBounds 0 (.bool true) = C := hC.symm
          clear hC hC2
          go_wp2_with (first | (refine wpList_buildOne rfl 32 49 (.tmp 29) rfl C rfl i0 _ Try.underlying32 hi hz0 257 hz1 hCs (by decide) (by decide) ?_) | (at_builtin; refine wpList_append_own _ rfl (.tmp 28) (.tmp 30) 32 rfl w.heap.size 49 i0 _ 257 257 Try.underlying32 hi hz0 hz1 hz2 hzc (by decide) _ _ _ rfl ((unhide hO).alloc _) ⟨wr.heap.size, 0, none⟩ 1 1 C.toList rfl (by rw [Array.length_toList, hCs]) (cells_new _ _ _) (unhide HC1) (by unfold maxLen; omega) (by omega) (by simp; omega) ?_))
          intro v' w9 hown9 hg9 _
          have hO9 := hide (rth_snoc (unhide HC) hown9)
          have hB9 : Hid (Below w.heap.size w w9) := ((unhide hB).alloc hsz _).grown hg9 (by simp; omega) (fun k hk => ((unhide hO).lt k hk).1)
          clear hown9 hg9 hO hB HC HC1
          obtain ⟨av, nv, cv, hv⟩ : ∃ a n c, v' = .slice a n c := by
            rcases (unhide hO9).2 with ⟨hv, _⟩ | ⟨g, cap, cur, hv, _⟩ <;> exact ⟨_, _, _, hv⟩
          subst hv
          go_wp2_with fail
          go_roundw
          case rel => exact ⟨_, k + 1, _, by omega, by rw [List.length_append]; simp; omega, rfl, by go_num, hO9, hE9, hB9⟩
          case measure => simp [intOf]; omega
        · have n42 : ¬ (s[k].toNat : Int) = 42 := fun e => h42 (u8_eq e)
          by_cases h63 : s[k] = 63
          · have hc : (s[k].toNat : Int) = 63 := by rw [h63]; rfl
            have hkd : kindP ((bs s).drop k) = (1, 1) := by rw [unhide hat, h63]; rfl
            have htk1 : ((bs s).drop k).take 1 = [63] := by rw [unhide hat, h63]; rfl
            have hE9 := hide (step_rd (unhide hE) hlt hkd (by show k + 1 ≤ s.size; omega))
            rw [htk1] at hE9
            clear hkd htk1 hE hat h63 h42 n42
            obtain ⟨C, hC⟩ : ∃ C, C = rcs false (fun _ => true) := ⟨_, rfl⟩
            have HCE := hide hC
            have hCs : C.size = 257 := by rw [hC, rcs_size]
            have HC : Hid (C = rcs (norm (thP 1 [63])).star (norm (thP 1 [63])).p) := by rw [hC]; rfl
            have HC1 : Hid (∀ u ∈ C.toList, u.oneCell' = true) := by rw [hC]; exact rcs_ones _ _
            clear hC
            go_wp2_with fail
            refine (unhide HEV _).mono ?_
            rintro e w2 ⟨rfl, hb2⟩
            have hO2 : Hid (w2.ownsRow w.heap.size 49 257 v ts.length (rtc (ts.map norm))) := (unhide hO).kept (row := none) ⟨hb2.os, hb2.tape, hb2.output, hb2.size, fun k hk _ => hb2.block k hk⟩ (by cases v.ownBlock <;> simp)
            have hB2 := hide ((unhide hB).trans (hb2.mono hsz))
            have hs2 := (unhide hB2).size
            rw [← unhide HCE]
            clear hb2 hO hB
            go_wp2_with (first | (refine wpList_buildOne rfl 32 49 (.tmp 35) rfl C rfl i0 _ Try.underlying32 hi hz0 257 hz1 hCs (by decide) (by decide) ?_) | (at_builtin; refine wpList_append_own _ rfl (.tmp 34) (.tmp 36) 32 rfl w.heap.size 49 i0 _ 257 257 Try.underlying32 hi hz0 hz1 hz2 hzc (by decide) _ _ _ rfl ((unhide hO2).alloc _) ⟨w2.heap.size, 0, none⟩ 1 1 C.toList rfl (by rw [Array.length_toList, hCs]) (cells_new _ _ _) (unhide HC1) (by unfold maxLen; omega) (by omega) (by simp; omega) ?_))
            intro v' w9 hown9 hg9 _
            have hO9 := hide (rth_snoc (unhide HC) hown9)
            have hB9 : Hid (Below w.heap.size w w9) := ((unhide hB2).alloc hs2 _).grown hg9 (by simp; omega) (fun k hk => ((unhide hO2).lt k hk).1)
            clear hown9 hg9 hO2 hB2 HC HC1
            obtain ⟨av, nv, cv, hv⟩ : ∃ a n c, v' = .slice a n c := by
              rcases (unhide hO9).2 with ⟨hv, _⟩ | ⟨g, cap, cur, hv, _⟩ <;> exact ⟨_, _, _, hv⟩
            subst hv
            go_wp2_with fail
            go_roundw
            case rel => exact ⟨_, k + 1, _, by omega, by rw [List.length_append]; simp; omega, rfl, by go_num, hO9, hE9, hB9⟩
            case measure => simp [intOf]; omega
          · have n63 : ¬ (s[k].toNat : Int) = 63 := fun e => h63 (u8_eq e)
            by_cases h92 : s[k] = 92
            · have hc : (s[k].toNat : Int) = 92 := by rw [h92]; rfl
              have hkd : kindP ((bs s).drop k) = (2, 2) := by rw [unhide hat, h92]; rfl
              by_cases hend : k + 1 = s.size
              · have hnone : R = none := by
                  rw [unhide hRA]
                  exact step_none (unhide hE) hlt hkd (by show s.size < k + 2; omega)
                subst hnone
                have hend' : (k : Int) + 1 = (s.size : Int) := by omega
                clear hkd hE hat h92 h63 h42 n42 n63 hO hRA
                go_wp2_with fail
                go_ret2
                exact ⟨.inl ⟨rfl, rfl⟩, unhide hB⟩
              · have hk1 : k + 1 < s.size := by omega
                have hend' : ¬ (k : Int) + 1 = (s.size : Int) := by omega
                obtain ⟨C, t, ht, hCs, HC, HC1, H1⟩ := pack_q s[k + 1]
                have htk1 : thP 2 (((bs s).drop k).take 2) = t := by
                  rw [ht]
                  congr 1
                  rw [unhide hat, bs_at s (k + 1) hk1, h92]; rfl
                have hE9 := hide (step_rd (unhide hE) hlt hkd (by show k + 2 ≤ s.size; omega))
                rw [htk1] at hE9
                clear hkd htk1 hE hat h92 h63 h42 n42 n63
                clear ht
                go_wp2_with fail
                refine (unhide H1 _).mono ?_
                rintro e w2 ⟨rfl, hb2⟩
                have hO2 := hide (own_below (unhide hO) hb2)
                have hB2 := hide ((unhide hB).trans (hb2.mono hsz))
                have hs2 := (unhide hB2).size
                clear hb2 hO hB
                go_wp2_with (first | (refine wpList_buildOne rfl 32 49 (.tmp 50) rfl C rfl i0 _ Try.underlying32 hi hz0 257 hz1 hCs (by decide) (by decide) ?_) | (at_builtin; refine wpList_append_own _ rfl (.tmp 46) (.tmp 51) 32 rfl w.heap.size 49 i0 _ 257 257 Try.underlying32 hi hz0 hz1 hz2 hzc (by decide) _ _ _ rfl ((unhide hO2).alloc _) ⟨w2.heap.size, 0, none⟩ 1 1 C.toList rfl (by rw [Array.length_toList, hCs]) (cells_new _ _ _) (unhide HC1) (by unfold maxLen; omega) (by omega) (by simp; omega) ?_))
                intro v' w9 hown9 hg9 _
                have hO9 := hide (rth_snoc (unhide HC) hown9)
                have hB9 : Hid (Below w.heap.size w w9) := ((unhide hB2).alloc hs2 _).grown hg9 (by simp; omega) (fun k hk => ((unhide hO2).lt k hk).1)
                clear hown9 hg9 hO2 hB2 HC HC1
                obtain ⟨av, nv, cv, hv⟩ : ∃ a n c, v' = .slice a n c := by
                  rcases (unhide hO9).2 with ⟨hv, _⟩ | ⟨g, cap, cur, hv, _⟩ <;> exact ⟨_, _, _, hv⟩
                subst hv
                go_wp2_with fail
                go_roundw
                case rel => exact ⟨_, k + 2, _, by omega, by rw [List.length_append]; simp; omega, rfl, by go_num, hO9, hE9, hB9⟩
                case measure => simp [intOf]; omega
            · have n92 : ¬ (s[k].toNat : Int) = 92 := fun e => h92 (u8_eq e)
              by_cases h91 : s[k] = 91
              · have hc : (s[k].toNat : Int) = 91 := by rw [h91]; rfl
                have hkd := kind_91 (bs s) k hlt h91
                have HCL := hide (closing_any s k wr (by omega) hlt)
                have hlen : (bs s).length = s.size := rfl
                rw [hlen] at hkd
                by_cases hcl : fromP (bs s) k + 1 + endP (bs s) k < s.size
                · rw [if_pos hcl] at hkd HCL
                  obtain ⟨F, hF⟩ : ∃ F, F = fromP (bs s) k := ⟨_, rfl⟩
                  obtain ⟨T, hT⟩ : ∃ T, T = fromP (bs s) k + 1 + endP (bs s) k := ⟨_, rfl⟩
                  have hFk : k + 1 ≤ F := by rw [hF]; unfold fromP; omega
                  have hFT : F + 1 ≤ T := by rw [hF, hT]; omega
                  have hpr := fun c => pred_91 (bs s) k hcl c
                  rw [← hT] at hkd HCL hcl
                  rw [← hF] at HCL
                  rw [← hT, ← hF] at hpr
                  have hE9 := hide (step_rd (unhide hE) hlt hkd (by show k + (T + 1 - k) ≤ s.size; omega))
                  rw [show k + (T + 1 - k) = T + 1 by omega] at hE9
                  obtain ⟨t, ht⟩ : ∃ t, t = thP 3 (((bs s).drop k).take (T + 1 - k)) := ⟨_, rfl⟩
                  rw [← ht] at hE9
                  have hk1 : k + 1 < s.size := by omega
                  have hbg : bang ((bs s).drop (k + 1)) = (((s[k + 1]).toNat : Int) == 33) := by
                    rw [bs_at s (k + 1) hk1]
                    show decide (s[k + 1] = 33) = _
                    by_cases e : s[k + 1] = 33
                    · rw [e]; rfl
                    · rw [decide_eq_false e]
                      symm
                      rw [beq_eq_false_iff_ne]
                      exact fun e2 => e (u8_eq e2)
                  obtain ⟨nt, hnt⟩ : ∃ nt, nt = (((s[k + 1]).toNat : Int) == 33) := ⟨_, rfl⟩
                  rw [← hnt] at hbg
                  obtain ⟨X, hX⟩ : ∃ X, X = s.extract F T := ⟨_, rfl⟩
                  have hXb : bs X = ((bs s).drop F).take (T - F) := by rw [hX, bs_ext]
                  have hXs : X.size ≤ 5000 := by rw [← bs_len, hXb, List.length_take, List.length_drop]; omega
                  have HBR := hide (fun W => rbracket_any X nt W hXs)
                  obtain ⟨C, hC⟩ : ∃ C, C = rcs false (fun c => ins (bs X) c != nt) := ⟨_, rfl⟩
                  rw [← hC] at HBR
                  have hCs : C.size = 257 := by rw [hC, rcs_size]
                  have HC : Hid (C = rcs (norm t).star (norm t).p) := by
                    show _ = _
                    have e2 : (norm t).p = fun c => ins (bs X) c != nt := by
                      funext c
                      have e3 : t.p c = (ins (bs X) c != nt) := by rw [ht]; show predP 3 _ c = _; rw [hpr, hXb, hbg]
                      have e4 : t.star = false := by rw [ht]; rfl
                      show (!t.star && t.p c) = _
                      rw [e3, e4]; rfl
                    have e5 : (norm t).star = false := by show t.star = _; rw [ht]; rfl
                    rw [e2, e5, hC]
                  have HC1 : Hid (∀ u ∈ C.toList, u.oneCell' = true) := by rw [hC]; exact rcs_ones _ _
                  have HX : Hid (∀ W, Calls Try.prog 29 #[.string (s.extract F T), .bool nt] W fun e w' => e = .returned (.agg C) ∧ Below W.heap.size W w') := fun W => by rw [← hX]; exact unhide HBR W
                  have hnt' : ((s[k + 1].toNat : Int) == 33) = nt := hnt.symm
                  clear hkd hpr hF hT hE hat h91 h92 h63 h42 n42 n63 n92 hbg hnt hX hXb hXs HBR hC ht
                  have hA1 : Hid (ts.length + 1 ≤ maxLen) := by show _ ≤ _; unfold maxLen; omega
                  have hA2 : Hid ((ts.length + 1) * 257 ≤ 140737488355328) := by show _ ≤ _; omega
                  have hA3 : Hid (T + 1 ≤ s.size ∧ ts.length + 1 ≤ T + 1 ∧ s.size - (T + 1) < s.size - k) := ⟨by omega, by omega, by omega⟩
                  have hOd : Hid (wr.drew.ownsRow w.heap.size 49 257 v ts.length (rtc (ts.map norm))) := (unhide hO).kept (row := none) ⟨rfl, rfl, rfl, Nat.le_refl _, fun _ _ _ => rfl⟩ (by cases v.ownBlock <;> simp)
                  have hBd := hide (below_drew1 (unhide hB))
                  clear hO hB
                  go_wp2_with fail
                  refine (unhide HCL).mono ?_
                  rintro e w1 ⟨rfl, rfl⟩
                  clear HCL
                  go_wp2_with fail
                  clear hlen hzero
                  have hF0 : (0 : Int) ≤ (F : Int) := by omega
                  have hT0 : (0 : Int) ≤ (T : Int) := by omega
                  have hFTi : (F : Int) ≤ (T : Int) := by omega
                  have hTsi : (T : Int) ≤ (s.size : Int) := by omega
                  have hk10 : (0 : Int) ≤ (k : Int) + 1 := by omega
                  have hk1i : (k : Int) + 1 < (s.size : Int) := by omega
                  have hw2 : wrap64 ((k : Int) + 1) = (k : Int) + 1 := by unfold wrap64; omega
                  have HWK : Hid (IntKind.i64.wrap ((k : Int) + 1) = (k : Int) + 1) := by rw [IntWalk.i64_left]; exact hw2
                  refine wp_region_held_drew (S := fun _ => True) (by kernel_rfl) trivial (fun hHeld => ?_)
                  refine wpAnyH_take (i := 0) (oi := _) (v := ?v1) rfl (by kernel_rfl) (by kernel_rfl) (by kernel_rfl) (fun _ _ _ h => h) (Or.inl ⟨by rfl, ?hy1⟩) (by assumption) ?rest1
                  case hy1 => (intro w hSw; (try dsimp only at hSw); go_simp; try with_reducible rfl)
                  simp only [Act.put, List.getElem_toArray, List.getElem_cons_zero, List.setIfInBounds_toArray, List.set_cons_zero, List.set_cons_succ]
                  refine wpAnyH_take (i := 1) (oi := _) (v := ?v2) rfl (by kernel_rfl) (by kernel_rfl) (by kernel_rfl) (fun _ _ _ h => h) (Or.inl ⟨by rfl, ?hy2⟩) (by assumption) ?rest2
                  case hy2 => (intro w hSw; (try dsimp only at hSw); go_simp; try with_reducible rfl)
                  simp only [Act.put, List.getElem_toArray, List.getElem_cons_zero, List.getElem_cons_succ, List.setIfInBounds_toArray, List.set_cons_zero, List.set_cons_succ]
                  refine wpAnyH_take (i := 2) (oi := _) (v := ?v3) rfl (by kernel_rfl) (by kernel_rfl) (by kernel_rfl) (fun _ _ _ h => h) (Or.inl ⟨by rfl, ?hy3⟩) (by assumption) ?rest3
                  case hy3 => (intro w hSw; (try dsimp only at hSw); go_simp; try with_reducible rfl)
                  simp only [Act.put, List.getElem_toArray, List.getElem_cons_zero, List.getElem_cons_succ, List.setIfInBounds_toArray, List.set_cons_zero, List.set_cons_succ]
                  refine wpAnyH_take (i := 3) (oi := _) (v := ?v4) rfl (by kernel_rfl) (by kernel_rfl) (by kernel_rfl) (fun _ _ _ h => h) (Or.inl ⟨by rfl, ?hy4⟩) (by assumption) ?rest4
                  case hy4 => (intro w hSw; (try dsimp only at hSw); go_simp; try with_reducible rfl)
                  simp only [Act.put, List.getElem_toArray, List.getElem_cons_zero, List.getElem_cons_succ, List.setIfInBounds_toArray, List.set_cons_zero, List.set_cons_succ]
                  refine wpAnyH_take (i := 4) (oi := _) (v := ?v5) rfl (by kernel_rfl) (by kernel_rfl) (by kernel_rfl) (fun _ _ _ h => h) (Or.inl ⟨by rfl, ?hy5⟩) (by assumption) ?rest5
                  case hy5 => (intro w hSw; (try dsimp only at hSw); go_simp; try with_reducible rfl)
                  simp only [Act.put, List.getElem_toArray, List.getElem_cons_zero, List.getElem_cons_succ, List.setIfInBounds_toArray, List.set_cons_zero, List.set_cons_succ]
                  refine wpAnyH_take (i := 5) (oi := _) (v := ?v6) rfl (by kernel_rfl) (by kernel_rfl) (by kernel_rfl) (fun _ _ _ h => h) (Or.inl ⟨by rfl, ?hy6⟩) (by assumption) ?rest6
                  case hy6 => (intro w hSw; (try dsimp only at hSw); go_simp; try with_reducible rfl)
                  simp only [Act.put, List.getElem_toArray, List.getElem_cons_zero, List.getElem_cons_succ, List.setIfInBounds_toArray, List.set_cons_zero, List.set_cons_succ]
                  refine wpAnyH_take (i := 6) (oi := _) (v := ?v7) rfl (by kernel_rfl) (by kernel_rfl) (by kernel_rfl) (fun _ _ _ h => h) (Or.inl ⟨by rfl, ?hy7⟩) (by assumption) ?rest7
                  case hy7 => (intro w hSw; (try dsimp only at hSw); go_simp; try with_reducible rfl)
                  simp only [Act.put, List.getElem_toArray, List.getElem_cons_zero, List.getElem_cons_succ, List.setIfInBounds_toArray, List.set_cons_zero, List.set_cons_succ]
                  refine wpAnyH_take (i := 7) (oi := _) (v := .int .i64 ((k : Int) + 1)) rfl (by kernel_rfl) (by kernel_rfl) (by kernel_rfl) (fun _ _ _ h => h) (Or.inl ⟨by rfl, ?hz7⟩) (by assumption) ?sz7
                  case hz7 => (intro W hSw; (try dsimp only at hSw); go_simp; rw [unhide HWK])
                  simp only [Act.put, List.getElem_toArray, List.getElem_cons_zero, List.getElem_cons_succ, List.setIfInBounds_toArray, List.set_cons_zero, List.set_cons_succ]
                  refine wpAnyH_take (i := 8) (oi := _) (v := .int .u8 (s[k + 1].toNat : Int)) rfl (by kernel_rfl) (by kernel_rfl) (by kernel_rfl) (fun _ _ _ h => h) (Or.inl ⟨by rfl, ?hz8⟩) (by assumption) ?sz8
                  case hz8 => (intro W hSw; (try dsimp only at hSw); go_simp; try (simp [hk1i]; try rfl))
                  simp only [Act.put, List.getElem_toArray, List.getElem_cons_zero, List.getElem_cons_succ, List.setIfInBounds_toArray, List.set_cons_zero, List.set_cons_succ]
                  refine wpAnyH_take (i := 9) (oi := _) (v := .bool nt) rfl (by kernel_rfl) (by kernel_rfl) (by kernel_rfl) (fun _ _ _ h => h) (Or.inl ⟨by rfl, ?hz9⟩) (by assumption) ?sz9
                  case hz9 => (intro W hSw; (try dsimp only at hSw); go_simp; try rfl)
                  simp only [Act.put, List.getElem_toArray, List.getElem_cons_zero, List.getElem_cons_succ, List.setIfInBounds_toArray, List.set_cons_zero, List.set_cons_succ]
                  refine wpAnyH_ready (rs := [10]) (by kernel_rfl) (by simp) ?_
                  refine AllReadyH.cons (o := _) rfl (fun K hK => ?_) AllReadyH.nil
                  go_simp
                  ((with_reducible refine (unhide HX _).mono ?_); rintro e w2 ⟨rfl, hb2⟩; have hO2 := hide (own_below (unhide hOd) hb2); have hB2 := hide ((unhide hBd).trans (hb2.mono (unhide hBd).size)); have hs2 := (unhide hB2).size)
                  go_wp2_with fail
                  refine hK.out _ _ (by first | assumption | (dsimp only; assumption)) (fun hHeld2 => ?_)
                  clear hK K
                  try simp only [Act.put, List.getElem_toArray, List.getElem_cons_zero, List.getElem_cons_succ, List.setIfInBounds_toArray, List.set_cons_zero, List.set_cons_succ]
                  refine wpAnyH_ready (rs := [11]) (by kernel_rfl) (by simp) ?_
                  refine AllReadyH.cons (o := _) rfl (fun K hK => ?_) AllReadyH.nil
                  refine step_buildOne rfl 32 49 (.tmp 73) rfl C rfl i0 _ Try.underlying32 hi hz0 257 hz1 hCs (by decide) (by decide) ?_
                  simp only [Act.put, List.getElem_toArray, List.getElem_cons_zero, List.getElem_cons_succ, List.setIfInBounds_toArray, List.set_cons_zero, List.set_cons_succ]
                  refine hK.out _ _ trivial (fun hHeld3 => ?_)
                  clear hK K
                  refine wpAnyH_ready (rs := [12]) (by kernel_rfl) (by simp) ?_
                  refine AllReadyH.cons (o := _) rfl (fun K hK => ?_) AllReadyH.nil
                  refine step_append_own rfl (.tmp 63) (.tmp 74) 32 rfl w.heap.size 49 i0 _ 257 257 Try.underlying32 hi hz0 hz1 hz2 hzc (by decide) v ts.length (rtc (ts.map norm)) (by rfl) ((unhide hO2).alloc _) ⟨w2.heap.size, 0, none⟩ 1 1 C.toList (by rfl) (by rw [Array.length_toList, hCs]) (cells_new _ _ _) (unhide HC1) (unhide hA1) (unhide hA2) (by rw [World.size_alloc]; exact Nat.le_succ_of_le hs2) ?_
                  intro v' w9 hown9 hg9
                  have hO9 := hide (rth_snoc (unhide HC) hown9)
                  have hB9 : Hid (Below w.heap.size w w9) := ((unhide hB2).alloc hs2 _).grown hg9 (by rw [World.size_alloc]; exact Nat.le_succ_of_le hs2) (fun k hk => ((unhide hO2).lt k hk).1)
                  obtain ⟨av, nv, cv, hv⟩ : ∃ a n c, v' = .slice a n c := by
                    rcases (unhide hO9).2 with ⟨hv, _⟩ | ⟨g, cap, cur, hv, _⟩ <;> exact ⟨_, _, _, hv⟩
                  subst hv
                  simp only [Act.put, List.getElem_toArray, List.getElem_cons_zero, List.getElem_cons_succ, List.setIfInBounds_toArray, List.set_cons_zero, List.set_cons_succ]
                  refine hK.out _ _ trivial (fun hHeld4 => ?_)
                  clear hK K hown9 hg9 hO2 hB2 HC HC1
                  refine wpAnyH_take (i := 13) (oi := _) (v := ?v13) rfl (by kernel_rfl) (by kernel_rfl) (by kernel_rfl) (fun _ _ _ h => h) (Or.inl ⟨by rfl, ?hz13⟩) (by assumption) ?sz13
                  case hz13 => (intro W hSw; (try dsimp only at hSw); go_simp; try with_reducible rfl)
                  simp only [Act.put, List.getElem_toArray, List.getElem_cons_zero, List.getElem_cons_succ, List.setIfInBounds_toArray, List.set_cons_zero, List.set_cons_succ]
                  refine wpAnyH_done (by kernel_rfl) ?_ _
                  go_wp2_with fail
                  go_roundw
                  case rel => exact ⟨_, T + 1, _, (unhide hA3).1, by rw [List.length_append]; exact (unhide hA3).2.1, rfl, by go_num, hO9, hE9, hB9⟩
                  case measure => (simp [intOf]; exact (unhide hA3).2.2)
                · rw [if_neg hcl] at hkd HCL
                  have htk1 : ((bs s).drop k).take 1 = [91] := by rw [unhide hat, h91]; rfl
                  have hE9 := hide (step_rd (unhide hE) hlt hkd (by show k + 1 ≤ s.size; omega))
                  rw [htk1] at hE9
                  clear hkd htk1 hE hat h91 h92 h63 h42 n42 n63 n92 hcl
                  go_wp2_with fail
                  refine (unhide HCL).mono ?_
                  rintro e w1 ⟨rfl, rfl⟩
                  clear HCL
                  obtain ⟨C, hC⟩ : ∃ C, C = rone 91 := ⟨_, rfl⟩
                  have HCE := hide hC
                  have hCs : C.size = 257 := by rw [hC]; exact rone_size _
                  have HC : Hid (C = rcs (norm (thP 4 [91])).star (norm (thP 4 [91])).p) := by rw [hC]; exact rone_p _
                  have HC1 : Hid (∀ u ∈ C.toList, u.oneCell' = true) := by rw [hC]; exact rone_ones _
                  clear hC
                  go_wp2_with fail
                  refine (unhide HONE 91 _).mono ?_
                  rintro e w2 ⟨rfl, hb2⟩
                  have hO2 : Hid (w2.ownsRow w.heap.size 49 257 v ts.length (rtc (ts.map norm))) := (unhide hO).kept (row := none) ⟨hb2.os, hb2.tape, hb2.output, hb2.size, fun k hk _ => hb2.block k hk⟩ (by cases v.ownBlock <;> simp)
                  have hB2 := hide ((unhide hB).trans (hb2.mono hsz))
                  have hs2 := (unhide hB2).size
                  rw [← unhide HCE]
                  clear hb2 hO hB
                  go_wp2_with (first | (refine wpList_buildOne rfl 32 49 (.tmp 78) rfl C rfl i0 _ Try.underlying32 hi hz0 257 hz1 hCs (by decide) (by decide) ?_) | (at_builtin; refine wpList_append_own _ rfl (.tmp 77) (.tmp 79) 32 rfl w.heap.size 49 i0 _ 257 257 Try.underlying32 hi hz0 hz1 hz2 hzc (by decide) _ _ _ rfl ((unhide hO2).alloc _) ⟨w2.heap.size, 0, none⟩ 1 1 C.toList rfl (by rw [Array.length_toList, hCs]) (cells_new _ _ _) (unhide HC1) (by unfold maxLen; omega) (by omega) (by simp; omega) ?_))
                  intro v' w9 hown9 hg9 _
                  have hO9 := hide (rth_snoc (unhide HC) hown9)
                  have hB9 : Hid (Below w.heap.size w w9) := ((unhide hB2).alloc hs2 _).grown hg9 (by simp; omega) (fun k hk => ((unhide hO2).lt k hk).1)
                  clear hown9 hg9 hO2 hB2 HC HC1
                  obtain ⟨av, nv, cv, hv⟩ : ∃ a n c, v' = .slice a n c := by
                    rcases (unhide hO9).2 with ⟨hv, _⟩ | ⟨g, cap, cur, hv, _⟩ <;> exact ⟨_, _, _, hv⟩
                  subst hv
                  go_wp2_with fail
                  go_roundw
                  case rel => exact ⟨_, k + 1, _, by omega, by rw [List.length_append]; simp; omega, rfl, by go_num, hO9, hE9, hB9⟩
                  case measure => simp [intOf]; omega
              · have n91 : ¬ (s[k].toNat : Int) = 91 := fun e => h91 (u8_eq e)
                have hsg : sign s[k] = false := by simp [sign, h42, h63, h91, h92]
                have hkd : kindP ((bs s).drop k) = (4, 1) := by rw [unhide hat]; exact kind_plain _ _ hsg
                obtain ⟨C, t, ht, hCs, HC, HC1, H1⟩ := pack_p s[k]
                have htk1 : thP 4 (((bs s).drop k).take 1) = t := by
                  rw [ht]
                  congr 1
                  rw [unhide hat]; rfl
                have hE9 := hide (step_rd (unhide hE) hlt hkd (by show k + 1 ≤ s.size; omega))
                rw [htk1] at hE9
                clear hkd htk1 hE hat h92 h91 h63 h42 hsg
                clear ht
                go_wp2_with fail
                refine (unhide H1 _).mono ?_
                rintro e w2 ⟨rfl, hb2⟩
                have hO2 := hide (own_below (unhide hO) hb2)
                have hB2 := hide ((unhide hB).trans (hb2.mono hsz))
                have hs2 := (unhide hB2).size
                clear hb2 hO hB
                go_wp2_with (first | (refine wpList_buildOne rfl 32 49 (.tmp 23) rfl C rfl i0 _ Try.underlying32 hi hz0 257 hz1 hCs (by decide) (by decide) ?_) | (at_builtin; refine wpList_append_own _ rfl (.tmp 19) (.tmp 24) 32 rfl w.heap.size 49 i0 _ 257 257 Try.underlying32 hi hz0 hz1 hz2 hzc (by decide) _ _ _ rfl ((unhide hO2).alloc _) ⟨w2.heap.size, 0, none⟩ 1 1 C.toList rfl (by rw [Array.length_toList, hCs]) (cells_new _ _ _) (unhide HC1) (by unfold maxLen; omega) (by omega) (by simp; omega) ?_))
                intro v' w9 hown9 hg9 _
                have hO9 := hide (rth_snoc (unhide HC) hown9)
                have hB9 : Hid (Below w.heap.size w w9) := ((unhide hB2).alloc hs2 _).grown hg9 (by simp; omega) (fun k hk => ((unhide hO2).lt k hk).1)
                clear hown9 hg9 hO2 hB2 HC HC1
                obtain ⟨av, nv, cv, hv⟩ : ∃ a n c, v' = .slice a n c := by
                  rcases (unhide hO9).2 with ⟨hv, _⟩ | ⟨g, cap, cur, hv, _⟩ <;> exact ⟨_, _, _, hv⟩
                subst hv
                go_wp2_with fail
                go_roundw
                case rel => exact ⟨_, k + 1, _, by omega, by rw [List.length_append]; simp; omega, rfl, by go_num, hO9, hE9, hB9⟩
                case measure => simp [intOf]; omega
      · have hlt' : ¬ (k : Int) < (s.size : Int) := by omega
        have hfin : Hid (R = some ts) := by
          show _ = _
          rw [unhide hRA, unhide hE, bs_end s k (by omega), rdA_nil]; simp
        obtain ⟨av, nv, cv, hv⟩ : ∃ a n c, v = .slice a n c := by
          rcases (unhide hO).2 with ⟨hv, _⟩ | ⟨g, cap, cur, hv, _⟩ <;> exact ⟨_, _, _, hv⟩
        subst hv
        clear hE hRA
        go_wp2_with fail
        go_ret2
        exact ⟨.inr ⟨ts, _, unhide hfin, by omega, by omega, rfl, unhide hO⟩, unhide hB⟩
end Go.Proofs.Ytelijbnamiefcaa.Gl
