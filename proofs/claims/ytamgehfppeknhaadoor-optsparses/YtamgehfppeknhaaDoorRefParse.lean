/- What the document's Parse answers: the walk of its loops. -/
import Derived.Test.YtamgehfppeknhaaDoorRefMay
import Derived.Test.YtamgehfppeknhaaDoorParseMain
import Derived.RegionTactic
import Derived.BigRegion
namespace Go.Proofs.YtamgehfppeknhaaDoor.Pa
open Go.RowKit

theorem own_below {w w' : World} {base : Nat} {e : TypeId} {size : Nat} {v : Value} {n : Nat} {xs : List Value} (h : w.ownsRow base e size v n xs) (hb : Below w.heap.size w w') : w'.ownsRow base e size v n xs :=
  h.kept (row := none) ⟨hb.os, hb.tape, hb.output, hb.size, fun k hk _ => hb.block k hk⟩ (by cases v.ownBlock <;> simp)

theorem pair_at (w : World) (g : Nat) (hg : g = w.heap.size) (x y : Value) (e : TypeId) : ∀ j u, [x, y][j]? = some u → (w.alloc (.cells #[x, y] e)).cell? ((⟨g, 0, none⟩ : Addr).add j) = some u := by
  subst hg
  exact pair_new w x y e
/-- what holds between the rounds: the flags so far -/
structure RInv (w wr : World) (v : Value) (fl : Fl) : Prop where
  row : wr.ownsRow w.heap.size 59 2 v fl.length (fcl fl)
  bel : Below w.heap.size w wr
theorem RInv.below {w wr wr' : World} {v : Value} {fl : Fl} (h : RInv w wr v fl) (hb : Below wr.heap.size wr wr') : RInv w wr' v fl :=
  ⟨own_below h.row hb, h.bel.trans (hb.mono h.bel.size)⟩
theorem RInv.grow {w wr w1 w2 : World} {v v' : Value} {fl : Fl} {c : Int} {x : ByteArray} (h : RInv w wr v fl) (o : Obj)
    (hw : w1 = wr.alloc o) (hg : w1.grownBy w2 v.ownBlock) (hr : w2.ownsRow w.heap.size 59 2 v' (fl.length + 1) (fcl fl ++ [.int .u8 c, .string x])) : RInv w w2 v' (fl ++ [(c, x)]) := by
  subst hw
  have hlt : ∀ j, v.ownBlock = some j → w.heap.size ≤ j := fun j hj => (h.row.lt j hj).1
  exact ⟨by rw [fcl_snoc]; simpa using hr, (h.bel.alloc h.bel.size o).grown hg (by have := h.bel.size; simp; omega) hlt⟩
theorem PaPost.rok {w wr w3 : World} {which : ByteArray} {ss rest : List ByteArray} {m : Nat} {v vt : Value} {fl : Fl} {news : List Value}
    (hI : RInv w wr v fl) (hg : wr.grownBy w3 none) (hvt : w3.ownsRow wr.heap.size 9 1 vt m news) (hm : m = rest.length) (hnews : news = rest.map Value.string)
    (hp : parse which ss = (fl, rest, 0)) : PaPost w which ss (.returned (.tuple #[v, vt, .int .i64 0])) w3 := by
  subst hm hnews
  unfold PaPost
  rw [hp]
  refine ⟨v, vt, rfl, hI.row.kept hg (by cases v.ownBlock <;> simp), ownsRow_base hvt hI.bel.size, hI.bel.grown hg hI.bel.size (by simp), ?_⟩
  cases hv : v.ownBlock with
  | none => exact .inl rfl
  | some x =>
    refine .inr fun e => ?_
    have h1 := (hI.row.lt x hv).2
    have h2 := (hvt.lt x e.symm).1
    omega

/-- 'append(v, xs...)', v nil, xs nil or not -/
theorem wpList_append_nil {P : Program} {w : World} {ops : Array Oper} {rest : List Oper} {o : Oper} {a : Act} {Q : Exit → Act → World → Prop} (hgd : o.guard = none) (s x : Operand) (t : TypeId)
    (ho : o.op = .call { callee := .builtin .append, args := #[s, x], argTypes := #[t, t] })
    (base : Nat) (e : TypeId) (i : TypeInfo) (z : Value) (size bytes : Nat) (ht : P.underlying t = some (.slice e)) (hi : P.info? e = some i) (hz : i.zero = some z)
    (hsize : i.size = size) (hby : i.bytes = bytes) (hzs : z.cells.size = size) (hsz : 0 < size) (hs : a.eval s = .slice none 0 0)
    (ao : Option Addr) (m c : Nat) (news : List Value) (hx : a.eval x = .slice ao m c) (hnone : ao = none → m = 0 ∧ c = 0) (hl : news.length = m * size)
    (hnews : ∀ ad, ao = some ad → ∀ j u, news[j]? = some u → w.cell? (ad.add j) = some u) (h1 : ∀ u ∈ news, u.oneCell' = true)
    (h63 : m ≤ maxLen) (hbytes : m * bytes ≤ 140737488355328) (hbase : base ≤ w.heap.size)
    (h : ∀ v' w', w'.ownsRow base e size v' m news → w.grownBy w' none → wpList P ops Q rest (a.put o.dst v') w') : wpList P ops Q (o :: rest) a w := by
  cases ao with
  | none =>
    obtain ⟨rfl, rfl⟩ := hnone rfl
    have : news = [] := List.eq_nil_of_length_eq_zero (by omega)
    subst this
    exact wpList_append_own_none hgd s x t ho base e i size ht hi (.slice none 0 0) 0 [] hs (World.ownsRow_nil _ _ _ _) hx (h _ _ (World.ownsRow_nil _ _ _ _) (World.grownBy.refl _ _))
  | some ad =>
    refine wpList_append_own w hgd s x t ho base e i z size bytes ht hi hz hsize hby hzs hsz (.slice none 0 0) 0 [] hs (World.ownsRow_nil _ _ _ _) ad m c news hx hl (hnews ad rfl) h1 (by omega) (by simpa using hbytes) hbase ?_
    intro v' w' hown hgrow _
    exact h v' w' (by simpa using hown) hgrow

theorem isOpt_no {s : ByteArray} (h : isOpt s.data.toList = false) (h1 : 1 < s.size) : s[0].toNat ≠ 45 := by
  intro e
  have e0 := drop_at s 0 (by omega)
  rw [List.drop_zero] at e0
  unfold isOpt at h
  rw [show s.data.toList.length = s.size from rfl, e0] at h
  have : s[0] = 45 := UInt8.toNat_inj.1 e
  simp [h1, this] at h
theorem isOpt_yes {s : ByteArray} (h : isOpt s.data.toList = true) : ∃ h1 : 1 < s.size, s[0].toNat = 45 := by
  have h1 := isOpt_size h
  refine ⟨h1, ?_⟩
  have e0 := drop_at s 0 (by omega)
  rw [List.drop_zero] at e0
  unfold isOpt at h
  rw [e0] at h
  simp at h
  rw [h.2]; rfl

set_option maxHeartbeats 1000000 in
set_option maxRecDepth 100000 in
theorem refParse_any (which : ByteArray) (a : Option Addr) (n cap : Nat) (ss : List ByteArray) (w : World) (hT : Tx w a n cap ss) (hs : which.size ≤ 4611686018427387900) (hn : n ≤ 4611686018427387900)
    (htot : tot ss ≤ 4194304) :
    Calls Tryd.prog 8 #[.string which, .slice a n cap] w (PaPost w which ss) := by
  have HT : Hid (Tx w a n cap ss) := hT
  have HTOT := hide htot
  have HMAY := hide (may_is which.data.toList)
  clear hT htot
  obtain ⟨i0, hi, hz0, hz1, hz2⟩ := info_parts Tryd.infoFlag
  obtain ⟨i1, hi1, hy0, hy1, hy2⟩ := info_parts Tryd.infoStr
  go_enter Tryd.func8, Tryd.ntmps8
  go_wp2_with fail
  refine (rmay_any which _ hs).mono ?_
  rintro e w1 ⟨rfl, dq, hw1⟩
  rw [(unhide HMAY).1]
  have hb1 : Hid (Below w.heap.size w w1) := by rw [hw1]; exact below_drewN (Below.refl _ _) _
  clear hw1
  cases hrd : rd which.data.toList (fun _ => 0) with
  | none =>
    have HN := hide hrd
    clear hrd
    go_wp2_with fail
    go_ret3
    exact PaPost.nix (parse_arg (unhide HN)) (unhide hb1)
  | some K =>
    have HK := hide hrd
    have HKK := hide ((unhide HMAY).2 K hrd)
    have HKV := hide (rd_vals _ _ _ hrd (fun _ => .inl rfl))
    clear hrd HMAY
    have hl : Hid (ss.length = n) := (unhide HT).len
    by_cases h256 : 256 < (n : Int)
    · go_wp2_with fail
      go_ret3
      exact PaPost.nix (parse_limit (unhide HK) (by rw [unhide hl]; omega)) (unhide hb1)
    · go_wp2_with fail
      go_loopg [7, 8] n (fun g v s8 wr => ∃ (k : Nat) (fl : Fl), k + g = n ∧ s8 = .int .i64 k ∧ Hid (RInv w wr v fl) ∧ Hid (words K (ss.drop k) fl = words K ss []) ∧ Hid (fl.length + tot (ss.drop k) ≤ tot ss))
      case atStart =>
        exact ⟨0, [], by omega, rfl, ⟨World.ownsRow_nil _ _ _ _, unhide hb1⟩, rfl, by simp [Hid]⟩
      case round =>
        obtain ⟨k, fl, hkg, rfl, hI, hW, hfl⟩ := hrel
        have hTw : Hid (Tx wr a n cap ss) := (unhide HT).below (unhide hI).bel
        have hcap : n ≤ cap := (unhide HT).le
        cases gk with
        | zero =>
          obtain rfl : k = n := by omega
          have hWd : Hid (words K ss [] = some (fl, ss.drop k)) := by
            rw [← unhide hW, List.drop_eq_nil_of_le (by rw [unhide hl]; omega)]; rfl
          clear hW
          go_wp2_with (at_builtin; refine wpList_append_nil rfl _ _ 22 rfl wr.heap.size 9 i1 _ 1 16 Tryd.underlying22 hi1 hy0 hy1 hy2 rfl (by decide) rfl _ _ _ ((ss.drop (k)).map Value.string) rfl (by exact src_none (unhide hTw) (k) _ _ (by omega) (by omega)) (by exact src_len (unhide hTw) (k) _ (by omega)) (by exact src_cells (unhide hTw) (k)) (texts_one _) (by unfold maxLen; omega) (by omega) (Nat.le_refl _) ?_; intro vt w9 hvt hg9)
          all_goals
            go_ret3
            exact PaPost.rok (unhide hI) hg9 hvt (by have := unhide hl; simp only [List.length_drop]; omega) rfl (parse_ok (unhide HK) (by rw [unhide hl]; omega) (unhide hWd))
        | succ g =>
          have hkn : k < ss.length := by rw [unhide hl]; omega
          have hkn' : k < n := by omega
          obtain ⟨b, off, rfl, hbl, hcs⟩ : ∃ b off, a = some ⟨b, off, none⟩ ∧ b < w.heap.size ∧ ∀ i, i < n → w.cell? ⟨b, off + i, none⟩ = some (.string (ss.getD i ByteArray.empty)) := by
            rcases (unhide HT).cells with h | h
            · omega
            · exact h
          obtain ⟨wd, hwd⟩ : ∃ wd, wd = ss[k] := ⟨_, rfl⟩
          have HWD := hide hwd
          have hws : wd.size ≤ 4194304 := by
            have h1 := tot_at hkn
            have h2 := tot_drop ss k
            have h3 := unhide HTOT
            rw [← hwd] at h1
            omega
          have hcx : wr.cell? ⟨b, off + k, none⟩ = some (.string wd) := by
            rw [(unhide hI).bel.cell (p := ⟨b, off + k, none⟩) hbl, hcs k hkn', hwd]
            simp [List.getD, List.getElem?_eq_getElem hkn]
          have HCS : Hid (∀ i, i < n → w.cell? ⟨b, off + i, none⟩ = some (.string (ss.getD i ByteArray.empty))) := hcs
          clear hcs hwd
          by_cases hd : wd.data.toList = [45, 45]
          · have hx : (wd.toList == [45, 45]) = true := by rw [ByteArray.toList_eq, hd]; rfl
            have hWd : Hid (words K ss [] = some (fl, ss.drop (k + 1))) := by
              rw [← unhide hW]; exact words_dash hkn (by rw [← unhide HWD]; exact hd)
            clear hd hW
            go_wp2_with (at_builtin; refine wpList_append_nil rfl _ _ 22 rfl wr.heap.size 9 i1 _ 1 16 Tryd.underlying22 hi1 hy0 hy1 hy2 rfl (by decide) rfl _ _ _ ((ss.drop (k + 1)).map Value.string) rfl (by exact src_none (unhide hTw) (k + 1) _ _ (by omega) (by omega)) (by exact src_len (unhide hTw) (k + 1) _ (by omega)) (by exact src_cells (unhide hTw) (k + 1)) (texts_one _) (by unfold maxLen; omega) (by omega) (Nat.le_refl _) ?_; intro vt w9 hvt hg9)
            all_goals
              go_ret3
              exact PaPost.rok (unhide hI) hg9 hvt (by have := unhide hl; simp only [List.length_drop]; omega) rfl (parse_ok (unhide HK) (by rw [unhide hl]; omega) (unhide hWd))
          · have hx : (wd.toList == [45, 45]) = false := by rw [ByteArray.toList_eq]; simpa using hd
            cases ho : isOpt wd.data.toList
            · have hWd : Hid (words K ss [] = some (fl, ss.drop k)) := by
                rw [← unhide hW]; exact words_stop hkn (by rw [← unhide HWD]; exact hd) (by rw [← unhide HWD]; exact ho)
              by_cases h2 : wd.size < 2
              · have h2' : (wd.size : Int) < 2 := by omega
                clear hd hW ho
                go_wp2_with (at_builtin; refine wpList_append_nil rfl _ _ 22 rfl wr.heap.size 9 i1 _ 1 16 Tryd.underlying22 hi1 hy0 hy1 hy2 rfl (by decide) rfl _ _ _ ((ss.drop k).map Value.string) rfl (by intro h; cases h) (by exact src_len (unhide hTw) k _ (by omega)) (by exact src_cells2 (unhide hTw) k hkn') (texts_one _) (by unfold maxLen; omega) (by omega) (Nat.le_refl _) ?_; intro vt w9 hvt hg9)
                all_goals
                  go_ret3
                  exact PaPost.rok (unhide hI) hg9 hvt (by have := unhide hl; simp only [List.length_drop]; omega) rfl (parse_ok (unhide HK) (by rw [unhide hl]; omega) (unhide hWd))
              · have h2' : ¬ (wd.size : Int) < 2 := by omega
                have h0' : 0 < wd.size := by omega
                have hy : ((wd[0].toNat : Int) != 45) = true := by
                  have := isOpt_no ho (by omega)
                  simp; omega
                clear hd hW ho
                go_wp2_with (at_builtin; refine wpList_append_nil rfl _ _ 22 rfl wr.heap.size 9 i1 _ 1 16 Tryd.underlying22 hi1 hy0 hy1 hy2 rfl (by decide) rfl _ _ _ ((ss.drop k).map Value.string) rfl (by intro h; cases h) (by exact src_len (unhide hTw) k _ (by omega)) (by exact src_cells2 (unhide hTw) k hkn') (texts_one _) (by unfold maxLen; omega) (by omega) (Nat.le_refl _) ?_; intro vt w9 hvt hg9)
                all_goals
                  go_ret3
                  exact PaPost.rok (unhide hI) hg9 hvt (by have := unhide hl; simp only [List.length_drop]; omega) rfl (parse_ok (unhide HK) (by rw [unhide hl]; omega) (unhide hWd))
            · obtain ⟨hsz1, h45⟩ := isOpt_yes ho
              have hWo : Hid (after K (ss.drop (k + 1)) (lets K (ss.drop (k + 1)).head? (wd.data.toList.drop 1) fl) = words K ss []) := by
                rw [← unhide hW, words_opt hkn (by rw [← unhide HWD]; exact hd) (by rw [← unhide HWD]; exact ho), unhide HWD]
                exact rfl
              have hfl2 : Hid (fl.length + (wd.size - 1) + tot (ss.drop (k + 1)) ≤ tot ss) := by
                have := unhide hfl
                rw [tot_at hkn, ← unhide HWD] at this
                show _ ≤ _
                omega
              have h2' : ¬ (wd.size : Int) < 2 := by omega
              have hy : ((wd[0].toNat : Int) != 45) = false := by simp; omega
              clear hd hW ho hfl h45
              go_wp2_with fail
              go_loopg [7, 8, 10] (wd.size - 1) (fun g2 s7 s8 s10 wy => ∃ (i : Nat) (f2 : Fl), i + g2 = wd.size ∧ s10 = .int .i64 i ∧ s8 = .int .i64 ((k : Int) + 1) ∧ 1 ≤ i ∧
                  Hid (RInv w wy s7 f2) ∧
                  Hid (after K (ss.drop (k + 1)) (lets K (ss.drop (k + 1)).head? (wd.data.toList.drop i) f2) = words K ss []) ∧
                  Hid (f2.length + (wd.size - i) + tot (ss.drop (k + 1)) ≤ tot ss))
              case atStart => exact ⟨1, fl, by omega, rfl, rfl, Nat.le_refl _, hI, hWo, hfl2⟩
              case round =>
                clear hI hWo hfl2 hTw hcx
                obtain ⟨i, f2, hig, rfl, rfl, hi1', hI, hW, hfl⟩ := hrel
                cases gk with
                | zero =>
                  obtain rfl : i = wd.size := by omega
                  have hW9 : Hid (words K (ss.drop (k + 1)) f2 = words K ss []) := by
                    rw [← unhide hW, lets_end K _ wd wd.size f2 (Nat.le_refl _)]; exact rfl
                  clear hW
                  go_wp2_with fail
                  go_roundg g
                  case measure => omega
                  case rel => exact ⟨k + 1, f2, by omega, by go_num, hI, hW9, by have := unhide hfl; show _ ≤ _; omega⟩
                | succ g2 =>
                  have hlt : i < wd.size := by omega
                  have hf2 : f2.length + 1 ≤ 4194304 := by have := unhide hfl; have := unhide HTOT; omega
                  have hKc : Hid (kindL which.data.toList (wd[i].toNat : Int) = K (wd[i].toNat : Int)) := ((unhide HKK) _).symm
                  rcases unhide HKV (wd[i].toNat : Int) with hk0 | hk1 | hk2
                  · have hW9 : Hid (words K ss [] = none) := by
                      rw [← unhide hW, lets_no K _ wd i f2 hlt (by rw [hk0]; decide) (by rw [hk0]; decide)]; exact rfl
                    have HK0 := hide hk0
                    clear hW hk0
                    go_wp2_with fail
                    refine (rkind_any which _ _ hs).mono ?_
                    rintro e w5 ⟨rfl, rfl⟩
                    rw [unhide hKc, unhide HK0]
                    go_wp2_with fail
                    go_ret3
                    exact PaPost.nix (parse_usage (unhide HK) (by rw [unhide hl]; omega) (unhide hW9)) (unhide hI).bel
                  · have hW9 : Hid (after K (ss.drop (k + 1)) (lets K (ss.drop (k + 1)).head? (wd.data.toList.drop (i + 1)) (f2 ++ [((wd[i].toNat : Int), ByteArray.empty)])) = words K ss []) := by
                      rw [← unhide hW, lets_one K _ wd i f2 hlt hk1]; exact rfl
                    have HK1 := hide hk1
                    clear hW hk1
                    go_wp2_with fail
                    refine (rkind_any which _ _ hs).mono ?_
                    rintro e w5 ⟨rfl, rfl⟩
                    rw [unhide hKc, unhide HK1]
                    go_wp2_with (at_builtin; refine wpList_append_own _ rfl _ _ 26 rfl w.heap.size 59 i0 _ 2 24 Tryd.underlying26 hi hz0 hz1 hz2 rfl (by decide) _ _ _ rfl ((unhide hI).row.alloc _) ⟨_, 0, none⟩ 1 1 [.int .u8 (wd[i].toNat : Int), .string ByteArray.empty] rfl rfl (pair_new _ _ _ _) (pair_one _ _ _) (by unfold maxLen; omega) (by omega) (by have := (unhide hI).bel.size; simp; omega) ?_; intro v' w9 hown9 hg9 hnil9)
                    have hI9 := hide ((unhide hI).grow _ rfl hg9 hown9)
                    clear hown9 hg9 hnil9
                    go_roundg g2
                    case measure => omega
                    case rel => exact ⟨i + 1, _, by omega, by go_num, rfl, by omega, hI9, hW9, by have := unhide hfl; show _ ≤ _; simp; omega⟩
                  · have HK2 := hide hk2
                    have hlt' : (i : Int) < (wd.size : Int) := by omega
                    by_cases hend : i + 1 < wd.size
                    · have hW9 : Hid (words K (ss.drop (k + 1)) (f2 ++ [((wd[i].toNat : Int), wd.extract (i + 1) wd.size)]) = words K ss []) := by
                        rw [← unhide hW, lets_told K _ wd i f2 hend hk2]; exact rfl
                      have harg : (wd.extract (i + 1) wd.size).toList.isEmpty = false := by
                        rw [ByteArray.toList_eq, ext_bs]; simp [bs, drop_at wd (i + 1) hend]
                      clear hW hk2
                      go_wp2_with fail
                      refine (rkind_any which _ _ hs).mono ?_
                      rintro e w5 ⟨rfl, rfl⟩
                      rw [unhide hKc, unhide HK2]
                      go_wp2_with fail
                      go_region
                      obtain ⟨w6, hw6⟩ : ∃ w6, w6 = (w5.alloc (.cells #[.int .u8 (wd[i].toNat : Int), .string (wd.extract (i + 1) wd.size)] 59)).drew := ⟨_, rfl⟩
                      have hI6 : Hid (RInv w w6 u7 f2) := by rw [hw6]; exact (unhide hI).below (below_drewN ((Below.refl _ _).alloc (Nat.le_refl _) _) 1)
                      have d0 : w6.cell? ⟨w5.heap.size, 0, none⟩ = some (.int .u8 (wd[i].toNat : Int)) := by rw [hw6]; simp
                      have d1 : w6.cell? ⟨w5.heap.size, 1, none⟩ = some (.string (wd.extract (i + 1) wd.size)) := by rw [hw6]; simp
                      rw [← hw6]
                      clear hw6 hI
                      go_wp2_with (at_builtin; refine wpList_append_own _ rfl _ _ 26 rfl w.heap.size 59 i0 _ 2 24 Tryd.underlying26 hi hz0 hz1 hz2 rfl (by decide) _ _ _ rfl ((unhide hI6).row.alloc _) ⟨_, 0, none⟩ 1 1 [.int .u8 (wd[i].toNat : Int), .string (wd.extract (i + 1) wd.size)] rfl rfl (pair_new _ _ _ _) (pair_one _ _ _) (by unfold maxLen; omega) (by omega) (by have := (unhide hI6).bel.size; simp at this ⊢; omega) ?_; intro v' w9 hown9 hg9 hnil9)
                      have hI9 := hide ((unhide hI6).grow _ rfl hg9 hown9)
                      clear hown9 hg9 hnil9
                      go_roundg g
                      case measure => omega
                      case rel => exact ⟨k + 1, _, by omega, by go_num, hI9, hW9, by have := unhide hfl; show _ ≤ _; simp; omega⟩
                    · have hlast : i + 1 = wd.size := by omega
                      have harg : (wd.extract (i + 1) wd.size).toList.isEmpty = true := by
                        rw [ByteArray.toList_eq, ext_bs]; simp [bs, drop_end wd (i + 1) (by omega)]
                      by_cases hmore : k + 1 < n
                      · have hkn2 : k + 1 < ss.length := by rw [unhide hl]; omega
                        obtain ⟨x2, hx2'⟩ : ∃ x2, x2 = ss[k + 1] := ⟨_, rfl⟩
                        have hW9 : Hid (words K (ss.drop (k + 1 + 1)) (f2 ++ [((wd[i].toNat : Int), x2)]) = words K ss []) := by
                          rw [← unhide hW]
                          rw [show (ss.drop (k + 1)).head? = some x2 from by rw [List.drop_eq_getElem_cons hkn2, hx2']; rfl]
                          rw [lets_next K x2 wd i f2 hlast hk2, after_next hkn2]
                          exact rfl
                        have htt : Hid (f2.length + 1 + tot (ss.drop (k + 1 + 1)) ≤ tot ss) := by
                          have h1 := unhide hfl
                          rw [tot_at hkn2] at h1
                          show _ ≤ _
                          omega
                        have HX2 := hide hx2'
                        have hm1 : (((k : Int) + 1) == (n : Int)) = false := by simp; omega
                        clear hW hk2 hx2' hlast
                        go_wp2_with fail
                        refine (rkind_any which _ _ hs).mono ?_
                        rintro e w5 ⟨rfl, rfl⟩
                        rw [unhide hKc, unhide HK2]
                        go_wp2_with fail
                        go_region
                        obtain ⟨w6, hw6⟩ : ∃ w6, w6 = (w5.alloc (.cells #[.int .u8 (wd[i].toNat : Int), .string (wd.extract (i + 1) wd.size)] 59)).drew := ⟨_, rfl⟩
                        have hB6 : Hid (Below w5.heap.size w5 w6) := by rw [hw6]; exact below_drewN ((Below.refl _ _).alloc (Nat.le_refl _) _) 1
                        have d0 : w6.cell? ⟨w5.heap.size, 0, none⟩ = some (.int .u8 (wd[i].toNat : Int)) := by rw [hw6]; simp
                        have d1 : w6.cell? ⟨w5.heap.size, 1, none⟩ = some (.string (wd.extract (i + 1) wd.size)) := by rw [hw6]; simp
                        have f1 : w6.frozen? ⟨w5.heap.size, 1, none⟩ = false := by rw [hw6]; simp
                        have hcx : w6.cell? ⟨b, off + (k + 1), none⟩ = some (.string x2) := by
                          have hbl5 := Nat.lt_of_lt_of_le hbl (unhide hI).bel.size
                          rw [(unhide hB6).cell (p := ⟨b, off + (k + 1), none⟩) hbl5, (unhide hI).bel.cell (p := ⟨b, off + (k + 1), none⟩) hbl, (unhide HCS) (k + 1) hmore, unhide HX2]
                          simp [List.getD, List.getElem?_eq_getElem hkn2]
                        have hI6 : Hid (RInv w (w6.setCell ⟨w5.heap.size, 1, none⟩ (.string x2)) u7 f2) := (unhide hI).below ((unhide hB6).setCell (Nat.le_refl _) _)
                        rw [← hw6]
                        clear hw6 hI
                        go_wp2_with (at_builtin; refine wpList_append_own _ rfl _ _ 26 rfl w.heap.size 59 i0 _ 2 24 Tryd.underlying26 hi hz0 hz1 hz2 rfl (by decide) _ _ _ rfl ((unhide hI6).row.alloc _) ⟨_, 0, none⟩ 1 1 [.int .u8 (wd[i].toNat : Int), .string (x2)] rfl rfl (by exact pair_at _ _ (by simp) _ _ _) (pair_one _ _ _) (by unfold maxLen; omega) (by omega) (by have := (unhide hI6).bel.size; simp at this ⊢; omega) ?_; intro v' w9 hown9 hg9 hnil9)
                        have hI9 := hide ((unhide hI6).grow _ rfl hg9 hown9)
                        clear hown9 hg9 hnil9
                        go_roundg (g - 1)
                        case measure => omega
                        case rel => exact ⟨k + 1 + 1, _, by omega, by go_num, hI9, hW9, by have := unhide htt; show _ ≤ _; simp; omega⟩
                      · obtain rfl : n = k + 1 := by omega
                        have hW9 : Hid (words K ss [] = none) := by
                          rw [← unhide hW]
                          rw [List.drop_eq_nil_of_le (show ss.length ≤ k + 1 by rw [unhide hl]; omega)]
                          show after K [] (lets K none _ f2) = none
                          rw [lets_lack K wd i f2 hlast hk2]
                          rfl
                        clear hW hk2 hlast
                        go_wp2_with fail
                        refine (rkind_any which _ _ hs).mono ?_
                        rintro e w5 ⟨rfl, rfl⟩
                        rw [unhide hKc, unhide HK2]
                        go_wp2_with fail
                        go_region
                        go_wp2_with fail
                        go_ret3
                        exact PaPost.nix (parse_usage (unhide HK) (by rw [unhide hl]; omega) (unhide hW9)) ((unhide hI).bel.trans ((below_drewN ((Below.refl _ _).alloc (Nat.le_refl _) _) 1).mono (unhide hI).bel.size))
end Go.Proofs.YtamgehfppeknhaaDoor.Pa
